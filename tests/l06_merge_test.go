package tests

import (
	"cmp"
	"fmt"
	"math"
	"math/rand"
	"slices"
	"strings"
	"testing"

	"loop.example/g00217/impl"
)

// hasAlike tells whether a list has one with this Key and Seq.
func hasAlike(list []impl.Entry, e impl.Entry) bool {
	return slices.ContainsFunc(list, func(o impl.Entry) bool { return o.Key == e.Key && o.Seq == e.Seq })
}

// mergedByRule takes each that no list ahead had, and sorts them in the end.
func mergedByRule(lists [][]impl.Entry) ([]impl.Entry, bool) {
	all := []impl.Entry{}
	for _, list := range lists {
		if !entriesByRule(list) {
			return nil, false
		}
		for _, e := range list {
			if !hasAlike(all, e) {
				all = append(all, e)
			}
		}
	}
	if len(lists) > 20 || len(all) > 300 {
		return nil, false
	}
	slices.SortFunc(all, func(a, b impl.Entry) int {
		return cmp.Or(strings.Compare(a.Key, b.Key), cmp.Compare(b.Seq, a.Seq))
	})
	return all, true
}

// seensByRule asks of each one whether it is the one that is seen of its Key, at the end of all Seqs or at a snap.
func seensByRule(list []impl.Entry, snaps []int64) []impl.Entry {
	if !entriesByRule(list) || len(snaps) > 20 {
		return nil
	}
	return slices.DeleteFunc(slices.Clone(list), func(e impl.Entry) bool {
		for _, seq := range append([]int64{math.MaxInt64}, snaps...) {
			if seen, is := seenByRule(list, e.Key, seq); is && seen == e {
				return false
			}
		}
		return true
	})
}

// bottomByRule takes out one at a time, as long as there is one.
func bottomByRule(list []impl.Entry, snaps []int64) []impl.Entry {
	left := seensByRule(list, snaps)
	for {
		at := slices.IndexFunc(left, func(e impl.Entry) bool {
			older := slices.ContainsFunc(left, func(o impl.Entry) bool { return o.Key == e.Key && o.Seq < e.Seq })
			return e.Gone && !older
		})
		if at < 0 {
			return left
		}
		left = slices.Delete(left, at, at+1)
	}
}

// dealt shares a list out to n lists, one to each in turn.
func dealt(list []impl.Entry, n int) [][]impl.Entry {
	lists := make([][]impl.Entry, n)
	for i, e := range list {
		lists[i%n] = append(lists[i%n], e)
	}
	return lists
}

func wantMerged(t *testing.T, name string, lists [][]impl.Entry, want []impl.Entry) {
	t.Helper()
	if got, ok := impl.Merged(lists); !ok || !slices.Equal(got, want) {
		t.Errorf("%s: %.400s, %v", name, fmt.Sprint(got), ok)
	}
}

func refuseMerged(t *testing.T, name string, lists [][]impl.Entry) {
	t.Helper()
	if got, ok := impl.Merged(lists); ok || len(got) != 0 {
		t.Errorf("%s: %d entries, %v", name, len(got), ok)
	}
}

func TestMergedOfNothing(t *testing.T) {
	for name, lists := range map[string][][]impl.Entry{
		"nil":             nil,
		"no lists":        {},
		"one nil":         {nil},
		"one empty":       {{}},
		"nil and empty":   {nil, {}, nil},
		"20 that are nil": make([][]impl.Entry, 20),
		"20 empty":        slices.Repeat([][]impl.Entry{{}}, 20),
	} {
		wantMerged(t, name, lists, nil)
	}
}

func TestMergedOfOneList(t *testing.T) {
	for name, list := range packLists() {
		wantMerged(t, name, [][]impl.Entry{list}, list)
		wantMerged(t, name+", behind empty ones", [][]impl.Entry{nil, {}, list}, list)
		wantMerged(t, name+", ahead of empty ones", [][]impl.Entry{list, {}, nil}, list)
		wantMerged(t, name+", between empty ones", [][]impl.Entry{{}, list, nil}, list)
	}
}

func TestMergedOfTwoLists(t *testing.T) {
	a5, a2, b1 := written("a", "new", 5), written("a", "old", 2), written("b", "x", 1)
	c6, c3, ab := goneAt("c", 6), written("c", "y", 3), written("ab", "", 1000000)
	for name, c := range map[string]struct{ one, other, want []impl.Entry }{
		"one behind the other":     {[]impl.Entry{a5, a2}, []impl.Entry{b1, c3}, []impl.Entry{a5, a2, b1, c3}},
		"in turn":                  {[]impl.Entry{a5, b1}, []impl.Entry{a2, c3}, []impl.Entry{a5, a2, b1, c3}},
		"one within the other":     {[]impl.Entry{a5, c3}, []impl.Entry{a2, ab, b1}, []impl.Entry{a5, a2, ab, b1, c3}},
		"one Key, by Seq":          {[]impl.Entry{c3}, []impl.Entry{c6}, []impl.Entry{c6, c3}},
		"a longer Key behind":      {[]impl.Entry{ab}, []impl.Entry{a2}, []impl.Entry{a2, ab}},
		"one of them empty":        {[]impl.Entry{a5, c6}, nil, []impl.Entry{a5, c6}},
		"of one, and all the rest": {[]impl.Entry{b1}, []impl.Entry{a5, a2, ab, c6, c3}, []impl.Entry{a5, a2, ab, b1, c6, c3}},
	} {
		wantMerged(t, name, [][]impl.Entry{c.one, c.other}, c.want)
		wantMerged(t, name+", turned", [][]impl.Entry{c.other, c.one}, c.want)
	}
}

func TestMergedOfManyLists(t *testing.T) {
	for _, list := range [][]impl.Entry{stones(), twoBlocks(), numbered(300), history("k", 300), great(300), goneOnes(290), numbered(19), numbered(20)} {
		for _, n := range []int{2, 3, 4, 5, 7, 8, 16, 19, 20} {
			lists := dealt(list, n)
			wantMerged(t, fmt.Sprint(len(list), " of ", n), lists, list)
			slices.Reverse(lists)
			wantMerged(t, fmt.Sprint(len(list), " of ", n, ", reversed"), lists, list)
			pieces := inGroups(list, (len(list)+n-1)/n)
			slices.Reverse(pieces)
			wantMerged(t, fmt.Sprint(len(list), " in pieces for ", n), pieces, list)
		}
	}
}

func TestMergedOfTooManyLists(t *testing.T) {
	one := []impl.Entry{written("k", "x", 3)}
	for name, lists := range map[string][][]impl.Entry{
		"21 that are nil":   make([][]impl.Entry, 21),
		"21 empty":          slices.Repeat([][]impl.Entry{{}}, 21),
		"21 alike":          slices.Repeat([][]impl.Entry{one}, 21),
		"21 of one each":    dealt(numbered(21), 21),
		"the 21st empty":    append(dealt(numbered(20), 20), nil),
		"the first empty":   append([][]impl.Entry{{}}, dealt(numbered(20), 20)...),
		"one of 21":         append(make([][]impl.Entry, 20), one),
		"22":                dealt(numbered(22), 22),
		"1000 that are nil": make([][]impl.Entry, 1000),
	} {
		refuseMerged(t, name, lists)
	}
	wantMerged(t, "20 alike", slices.Repeat([][]impl.Entry{one}, 20), one)
	wantMerged(t, "20, all but the last empty", append(make([][]impl.Entry, 19), one), one)
}

func TestMergedOfWrongLists(t *testing.T) {
	a, z := []impl.Entry{written("A", "x", 900)}, []impl.Entry{written("zz", "x", 900)}
	for name, wrong := range wrongLists() {
		for where, lists := range map[string][][]impl.Entry{
			"alone":             {wrong},
			"first":             {wrong, a, z},
			"between":           {a, wrong, z},
			"last":              {a, z, wrong},
			"behind empty ones": {nil, {}, wrong},
			"ahead of empty":    {wrong, nil},
			"twice":             {wrong, wrong},
			"the first of 20":   append([][]impl.Entry{wrong}, dealt(numbered(38), 19)...),
			"the last of 20":    append(dealt(numbered(38), 19), wrong),
			"the tenth of 20":   slices.Insert(dealt(numbered(38), 19), 9, wrong),
		} {
			refuseMerged(t, name+", "+where, lists)
		}
	}
	// Had it been sorted and each one kept once, this would be no wrong list.
	refuseMerged(t, "alike in one list", [][]impl.Entry{{a[0], a[0]}, z})
	refuseMerged(t, "out of order", [][]impl.Entry{{z[0], a[0]}})
}

func TestMergedOfAlikeOnes(t *testing.T) {
	x, y, gone, empty := written("k", "x", 3), written("k", "y", 3), goneAt("k", 3), written("k", "", 3)
	j, newer, older, l := written("j", "j", 9), written("k", "newer", 4), goneAt("k", 2), written("l", "l", 1)
	some := []impl.Entry{x, y, gone, empty}
	for _, first := range some {
		for _, second := range some {
			wantMerged(t, "two", [][]impl.Entry{{first}, {second}}, []impl.Entry{first})
			wantMerged(t, "with others", [][]impl.Entry{{j, first}, {newer, second, l}}, []impl.Entry{j, newer, first, l})
			wantMerged(t, "with others, turned", [][]impl.Entry{{newer, first, l}, {j, second}}, []impl.Entry{j, newer, first, l})
			wantMerged(t, "behind an empty one", [][]impl.Entry{{}, {first, older}, nil, {second, l}}, []impl.Entry{first, older, l})
			for _, third := range some {
				wantMerged(t, "three", [][]impl.Entry{{first}, {second}, {third}}, []impl.Entry{first})
				wantMerged(t, "three with others", [][]impl.Entry{{first, older}, {j, second}, {newer, third}}, []impl.Entry{j, newer, first, older})
				wantMerged(t, "the first has none", [][]impl.Entry{{j}, {newer, first}, {second, older}, {third}}, []impl.Entry{j, newer, first, older})
			}
		}
	}
	// A Key alone, or a Seq alone, makes nothing alike.
	wantMerged(t, "one Key", [][]impl.Entry{{x}, {newer}, {older}}, []impl.Entry{newer, x, older})
	wantMerged(t, "one Seq", [][]impl.Entry{{written("l", "x", 3)}, {x}}, []impl.Entry{x, written("l", "x", 3)})
}

// Each of 20 lists has all of it, with other Values: whichever is first, its own are told.
func TestMergedOfTwentyAlikeLists(t *testing.T) {
	for _, list := range [][]impl.Entry{stones(), numbered(300), history("k", 300), great(40)} {
		lists := [][]impl.Entry{}
		for i := range 20 {
			other := slices.Clone(list)
			for at := range other {
				if other[at].Gone = (i+at)%3 == 0; other[at].Gone {
					other[at].Value = ""
				} else {
					other[at].Value = fmt.Sprint("list ", i)
				}
			}
			lists = append(lists, other)
		}
		for range 20 {
			wantMerged(t, fmt.Sprint(len(list)), lists, lists[0])
			lists = append(lists[1:], lists[0])
		}
	}
}

func TestMergedOfMaxEntries(t *testing.T) {
	all := numbered(301)
	for name, lists := range map[string][][]impl.Entry{
		"300 in one":               {all[:300]},
		"150 and 150":              {all[:150], all[150:300]},
		"299 and 1":                {all[1:300], all[:1]},
		"20 of 15":                 dealt(all[:300], 20),
		"300 twice":                {all[:300], all[:300]},
		"300 twenty times":         slices.Repeat([][]impl.Entry{all[:300]}, 20),
		"300 and one of them":      {all[:300], all[7:8]},
		"one of them and 300":      {all[299:300], all[:300]},
		"200 and 200, 100 of both": {all[:200], all[100:300]},
		"299 and 299":              {all[:299], all[1:300]},
	} {
		wantMerged(t, name, lists, all[:300])
	}
	for name, lists := range map[string][][]impl.Entry{
		"300 and 1 behind":       {all[:300], all[300:]},
		"1 ahead and 300":        {all[:1], all[1:]},
		"300 and 1 ahead":        {all[1:], all[:1]},
		"300 and 1 between":      {all[:300], {written("k0100a", "x", 1)}},
		"300 and one Key again":  {all[:300], {written("k0100", "x", 900)}},
		"150 and 151":            {all[:150], all[150:]},
		"20 lists of 301":        dealt(all, 20),
		"300 and 300, 299 alike": {all[:300], all[1:]},
		"one too many 19 times":  append(slices.Repeat([][]impl.Entry{all[:300]}, 19), all[1:]),
		"300 and 300":            {all[:300], history("z", 300)},
		"6000":                   dealt(numbered(6000), 20),
		"of one Key":             dealt(history("k", 301), 2),
	} {
		refuseMerged(t, name, lists)
	}
}

// someShortLists has all lists over a few entries that are right.
func someShortLists() [][]impl.Entry {
	some := []impl.Entry{written("a", "x", 2), goneAt("a", 2), written("a", "y", 1), written("b", "z", 2), goneAt("b", 2), goneAt("b", 1)}
	lists := [][]impl.Entry{}
	for which := range 1 << len(some) {
		list := []impl.Entry{}
		for i, e := range some {
			if which>>i&1 == 1 {
				list = append(list, e)
			}
		}
		if entriesByRule(list) {
			lists = append(lists, list)
		}
	}
	return lists
}

func TestMergedOfAllShortLists(t *testing.T) {
	short := someShortLists()
	if len(short) != 36 {
		t.Fatal(len(short))
	}
	for _, a := range short {
		for _, b := range short {
			for _, c := range short {
				lists := [][]impl.Entry{a, b, c}
				want, _ := mergedByRule(lists)
				if got, ok := impl.Merged(lists); !ok || !slices.Equal(got, want) {
					t.Fatal(lists, got, ok)
				}
			}
		}
	}
}

// anyLists are of few Keys and Seqs, so that many are alike.
func anyLists(source *rand.Rand) [][]impl.Entry {
	keys := []string{"a", "aa", "b", "b\x00", "Z", "\xff"}
	lists := make([][]impl.Entry, source.Intn(21))
	seqs := 1 + source.Int63n(500)
	for i := range lists {
		for range source.Intn(40) {
			if next, ok := impl.Put(lists[i], anyEntry(source, keys, seqs)); ok {
				lists[i] = next
			}
		}
	}
	return lists
}

// Promise 6: Merged has all, in order.
func TestMergedHasAllInOrder(t *testing.T) {
	source := rand.New(rand.NewSource(11))
	right, wrong := 0, 0
	for range 500 {
		lists := anyLists(source)
		want, is := mergedByRule(lists)
		got, ok := impl.Merged(lists)
		if ok != is || !slices.Equal(got, want) {
			t.Fatalf("%v: %v, %v", lists, got, ok)
		}
		if !ok {
			wrong++
			continue
		}
		right++
		if !impl.EntriesOk(got) || !entriesByRule(got) {
			t.Fatalf("%v: not in order: %v", lists, got)
		}
		for _, list := range lists {
			for _, e := range list {
				if !hasAlike(got, e) {
					t.Fatalf("%v: %v is lost", lists, e)
				}
			}
		}
		for _, e := range got {
			first := slices.IndexFunc(lists, func(list []impl.Entry) bool { return hasAlike(list, e) })
			if first < 0 || !slices.Contains(lists[first], e) {
				t.Fatalf("%v: %v is not the first list's", lists, e)
			}
		}
	}
	if right < 100 || wrong < 20 {
		t.Fatal(right, wrong)
	}
}

func TestSeensOfTheStones(t *testing.T) {
	list := stones()
	a, b9, b7, b5, b2, ba, c, d := list[0], list[1], list[2], list[3], list[4], list[5], list[6], list[7]
	newest := []impl.Entry{a, b9, ba, c, d}
	with := func(more ...impl.Entry) []impl.Entry {
		return slices.Concat([]impl.Entry{a, b9}, more, []impl.Entry{ba, c, d})
	}
	for _, x := range []struct {
		snaps []int64
		want  []impl.Entry
	}{
		{nil, newest},
		{[]int64{}, newest},
		{[]int64{math.MinInt64}, newest},
		{[]int64{-1, -9}, newest},
		{[]int64{0}, newest},
		{[]int64{1}, newest},
		{[]int64{2}, with(b2)},
		{[]int64{3}, with(b2)},
		{[]int64{4}, with(b2)},
		{[]int64{5}, with(b5)},
		{[]int64{6}, with(b5)},
		{[]int64{7}, with(b7)},
		{[]int64{8}, with(b7)},
		{[]int64{9}, newest},
		{[]int64{10}, newest},
		{[]int64{1000000}, newest},
		{[]int64{1000001}, newest},
		{[]int64{math.MaxInt64}, newest},
		{[]int64{2, 3, 4}, with(b2)},
		{[]int64{5, 5, 5}, with(b5)},
		{[]int64{2, 5}, with(b5, b2)},
		{[]int64{5, 2}, with(b5, b2)},
		{[]int64{7, 2, 9}, with(b7, b2)},
		{[]int64{8, 6, 4}, with(b7, b5, b2)},
		{[]int64{4, 6, 8}, with(b7, b5, b2)},
		{[]int64{math.MaxInt64, 4, -1, 6, math.MinInt64, 8, 8, 4}, with(b7, b5, b2)},
	} {
		if got := impl.Seens(list, x.snaps); !slices.Equal(got, x.want) {
			t.Errorf("%v: %v", x.snaps, got)
		}
	}
}

func TestSeensOfNothing(t *testing.T) {
	for _, list := range [][]impl.Entry{nil, {}} {
		for _, snaps := range [][]int64{nil, {}, {0}, {5, 2}, make([]int64, 20), make([]int64, 21)} {
			if got := impl.Seens(list, snaps); len(got) != 0 {
				t.Error(snaps, got)
			}
			if got := impl.Bottom(list, snaps); len(got) != 0 {
				t.Error(snaps, got)
			}
		}
	}
}

func TestSeensOfOneKey(t *testing.T) {
	list := history("k", 300)
	for name, c := range map[string]struct {
		snaps []int64
		seqs  []int64
	}{
		"none":            {nil, []int64{300}},
		"the newest":      {[]int64{300}, []int64{300}},
		"one below":       {[]int64{299}, []int64{300, 299}},
		"the oldest":      {[]int64{1}, []int64{300, 1}},
		"ahead of all":    {[]int64{0, -5}, []int64{300}},
		"behind all":      {[]int64{301, 1000000, 1 << 40}, []int64{300}},
		"out of order":    {[]int64{7, 200, 1, 100}, []int64{300, 200, 100, 7, 1}},
		"alike":           {[]int64{7, 9, 7, 9, 7}, []int64{300, 9, 7}},
		"20 of them":      {[]int64{2, 4, 6, 8, 10, 12, 14, 16, 18, 20, 22, 24, 26, 28, 30, 32, 34, 36, 38, 40}, []int64{300, 40, 38, 36, 34, 32, 30, 28, 26, 24, 22, 20, 18, 16, 14, 12, 10, 8, 6, 4, 2}},
		"the last of all": {append(make([]int64, 19), 5), []int64{300, 5}},
	} {
		want := []impl.Entry{}
		for _, seq := range c.seqs {
			want = append(want, written("k", "v", seq))
		}
		if got := impl.Seens(list, c.snaps); !slices.Equal(got, want) {
			t.Errorf("%s: %v", name, got)
		}
		if got := impl.Bottom(list, c.snaps); !slices.Equal(got, want) {
			t.Errorf("%s: at the bottom: %v", name, got)
		}
	}
}

// wrongSnaps are more than 20, whatever they are.
func wrongSnaps() map[string][]int64 {
	wrong := map[string][]int64{
		"21 times 0":      make([]int64, 21),
		"21 alike":        slices.Repeat([]int64{5}, 21),
		"21 past all":     slices.Repeat([]int64{math.MaxInt64}, 21),
		"21 ahead of all": slices.Repeat([]int64{math.MinInt64}, 21),
		"1000":            make([]int64, 1000),
	}
	for i := range int64(21) {
		wrong["21 that rise"] = append(wrong["21 that rise"], i)
	}
	return wrong
}

func TestSeensAndBottomRefuse(t *testing.T) {
	for name, list := range wrongLists() {
		for _, snaps := range [][]int64{nil, {}, {5}, {1, 2, 3}, {math.MaxInt64}, make([]int64, 20), make([]int64, 21)} {
			if got := impl.Seens(list, snaps); len(got) != 0 {
				t.Errorf("%s: Seens: %d entries", name, len(got))
			}
			if got := impl.Bottom(list, snaps); len(got) != 0 {
				t.Errorf("%s: Bottom: %d entries", name, len(got))
			}
		}
	}
	for name, list := range rightLists() {
		for what, snaps := range wrongSnaps() {
			if got := impl.Seens(list, snaps); len(got) != 0 {
				t.Errorf("%s: %s: Seens: %d entries", name, what, len(got))
			}
			if got := impl.Bottom(list, snaps); len(got) != 0 {
				t.Errorf("%s: %s: Bottom: %d entries", name, what, len(got))
			}
			// One less is not too many.
			want := seensByRule(list, snaps[:20])
			if got := impl.Seens(list, snaps[:20]); !slices.Equal(got, want) || len(want) == 0 && len(list) > 0 {
				t.Errorf("%s: 20 of %s: %v", name, what, got)
			}
			if got := impl.Bottom(list, snaps[:20]); !slices.Equal(got, bottomByRule(list, snaps[:20])) {
				t.Errorf("%s: 20 of %s: at the bottom: %v", name, what, got)
			}
		}
	}
}

func TestBottomOfTheForms(t *testing.T) {
	v := func(seq int64) impl.Entry { return written("k", "v", seq) }
	gone := func(seq int64) impl.Entry { return goneAt("k", seq) }
	j, l := written("j", "", 1), written("l", "x", 9)
	for name, c := range map[string]struct {
		list  []impl.Entry
		snaps []int64
		want  []impl.Entry
	}{
		"an only one that is Gone":            {[]impl.Entry{gone(3)}, nil, nil},
		"the same, at its snap":               {[]impl.Entry{gone(3)}, []int64{3}, nil},
		"the same, at other snaps":            {[]impl.Entry{gone(3)}, []int64{0, 2, 4, math.MaxInt64}, nil},
		"an only one that is not":             {[]impl.Entry{v(3)}, nil, []impl.Entry{v(3)}},
		"an empty Value is not Gone":          {[]impl.Entry{written("k", "", 3)}, nil, []impl.Entry{written("k", "", 3)}},
		"Gone, and then written":              {[]impl.Entry{v(5), gone(3)}, []int64{3}, []impl.Entry{v(5)}},
		"Gone, and then written twice":        {[]impl.Entry{v(7), v(5), gone(3)}, []int64{3, 5}, []impl.Entry{v(7), v(5)}},
		"Gone three times, and then written":  {[]impl.Entry{v(9), gone(7), gone(5), gone(3)}, []int64{3, 5, 7}, []impl.Entry{v(9)}},
		"Gone each time":                      {[]impl.Entry{gone(9), gone(7), gone(5), gone(3)}, []int64{3, 5, 7, 9}, nil},
		"Gone in the middle, Gone at the end": {[]impl.Entry{v(9), gone(7), v(5), gone(3), gone(1)}, []int64{1, 3, 5, 7}, []impl.Entry{v(9), gone(7), v(5)}},
		"Gone, and the written one seen":      {[]impl.Entry{gone(5), v(3)}, []int64{3}, []impl.Entry{gone(5), v(3)}},
		"Gone twice, the written one seen":    {[]impl.Entry{gone(7), gone(5), v(3)}, []int64{6, 3}, []impl.Entry{gone(7), gone(5), v(3)}},
		"Gone, and nobody sees the other":     {[]impl.Entry{gone(5), v(3)}, nil, nil},
		"the same, by a snap ahead of it":     {[]impl.Entry{gone(5), v(3)}, []int64{2}, nil},
		"the same, by a snap of the Gone one": {[]impl.Entry{gone(5), v(3)}, []int64{5}, nil},
		"only the Gone ones are seen":         {[]impl.Entry{gone(9), v(7), gone(5), v(3)}, []int64{6}, nil},
		"one Gone under another's snap":       {[]impl.Entry{v(9), gone(7), v(5)}, []int64{7}, []impl.Entry{v(9)}},
		"between other Keys":                  {[]impl.Entry{j, gone(5), gone(3), l}, []int64{4}, []impl.Entry{j, l}},
		"between other Keys, it stays":        {[]impl.Entry{j, gone(5), v(3), l}, []int64{4}, []impl.Entry{j, gone(5), v(3), l}},
		"the next Key is no older one":        {[]impl.Entry{gone(5), goneAt("kk", 3), written("l", "", 1)}, nil, []impl.Entry{written("l", "", 1)}},
		"the Key ahead is none, either":       {[]impl.Entry{j, gone(1)}, nil, []impl.Entry{j}},
		"all Keys":                            {[]impl.Entry{goneAt("a", 1), goneAt("b", 4), goneAt("b", 2), goneAt("c", 3)}, []int64{2}, nil},
	} {
		if got := impl.Bottom(c.list, c.snaps); !slices.Equal(got, c.want) || !slices.Equal(bottomByRule(c.list, c.snaps), c.want) {
			t.Errorf("%s: %v", name, got)
		}
	}
}

func TestBottomOfTheStones(t *testing.T) {
	list := stones()
	a, b9, b7, b5, b2, ba, d := list[0], list[1], list[2], list[3], list[4], list[5], list[7]
	for _, x := range []struct {
		snaps []int64
		want  []impl.Entry
	}{
		{nil, []impl.Entry{a, ba, d}},
		{[]int64{1, -1, 9, 10}, []impl.Entry{a, ba, d}},
		{[]int64{5}, []impl.Entry{a, ba, d}},
		{[]int64{6, 5}, []impl.Entry{a, ba, d}},
		{[]int64{2}, []impl.Entry{a, b9, b2, ba, d}},
		{[]int64{8}, []impl.Entry{a, b9, b7, ba, d}},
		{[]int64{7, 6}, []impl.Entry{a, b9, b7, ba, d}},
		{[]int64{4, 6}, []impl.Entry{a, b9, b5, b2, ba, d}},
		{[]int64{6, 4, 8}, []impl.Entry{a, b9, b7, b5, b2, ba, d}},
		{[]int64{3}, []impl.Entry{a, b9, b2, ba, d}},
	} {
		if got := impl.Bottom(list, x.snaps); !slices.Equal(got, x.want) {
			t.Errorf("%v: %v", x.snaps, got)
		}
	}
}

// All lists of one Key with Seqs to 6, each written or Gone or not there, at all snaps of those: as the rule tells.
func TestSeensAndBottomOfAllShortLists(t *testing.T) {
	lists := [][]impl.Entry{{}}
	for seq := int64(6); seq > 0; seq-- {
		for _, list := range slices.Clone(lists) {
			lists = append(lists, append(slices.Clone(list), written("k", fmt.Sprint(seq), seq)), append(slices.Clone(list), goneAt("k", seq)))
		}
	}
	for _, list := range lists {
		for which := range 1 << 8 {
			snaps := []int64{}
			for i := range int64(8) {
				if which>>i&1 == 1 {
					snaps = append(snaps, i)
				}
			}
			if got := impl.Seens(list, snaps); !slices.Equal(got, seensByRule(list, snaps)) {
				t.Fatal(list, snaps, got)
			}
			if got := impl.Bottom(list, snaps); !slices.Equal(got, bottomByRule(list, snaps)) {
				t.Fatal(list, snaps, "at the bottom", got)
			}
		}
	}
	if len(lists) != 729 {
		t.Fatal(len(lists))
	}
}

// anySnaps are so many numbers, about those that the list has.
func anySnaps(source *rand.Rand, list []impl.Entry, n int) []int64 {
	snaps := []int64{}
	for len(snaps) < n {
		snap := anySeqs[source.Intn(len(anySeqs))]
		if len(list) > 0 && source.Intn(4) > 0 {
			snap = list[source.Intn(len(list))].Seq + source.Int63n(3) - 1
		}
		snaps = append(snaps, snap)
	}
	return snaps
}

// keysOf has each Key of a list once, and some that are not there.
func keysOf(list []impl.Entry) []string {
	keys := []string{"", "nobody"}
	for _, e := range list {
		keys = append(keys, e.Key)
	}
	slices.Sort(keys)
	return slices.Compact(keys)
}

// checkSnaps asks at each snap, and where all Seqs end, what is seen and shown of the list, of Seens and of Bottom.
func checkSnaps(t *testing.T, list []impl.Entry, snaps []int64) {
	t.Helper()
	seens, bottom := impl.Seens(list, snaps), impl.Bottom(list, snaps)
	if !impl.EntriesOk(seens) || !impl.EntriesOk(bottom) {
		t.Fatalf("%v at %v: out of order: %v, %v", list, snaps, seens, bottom)
	}
	keys := keysOf(list)
	for _, seq := range slices.Concat(snaps, []int64{1000000, math.MaxInt64}) {
		shown := impl.Shown(list, seq)
		if !slices.Equal(impl.Shown(seens, seq), shown) || !slices.Equal(impl.Shown(bottom, seq), shown) {
			t.Fatalf("%v at %v: %d shows another list: %v, %v", list, snaps, seq, seens, bottom)
		}
		for _, key := range keys {
			want, there := impl.Seen(list, key, seq)
			if got, is := impl.Seen(seens, key, seq); got != want || is != there {
				t.Fatalf("%v at %v: %q at %d: %v, %v", list, snaps, key, seq, got, is)
			}
			got, is := impl.Seen(bottom, key, seq)
			if is && got != want || !is && there && !want.Gone {
				t.Fatalf("%v at %v: %q at %d, at the bottom: %v, %v", list, snaps, key, seq, got, is)
			}
		}
	}
}

// Promise 6: Seens shows at each snap what was shown.
func TestSeensShowsWhatWasShown(t *testing.T) {
	source := rand.New(rand.NewSource(12))
	fewer, fewerYet := 0, 0
	for round := range 600 {
		list := anyRightList(source, source.Intn(40))
		if lists := anyLists(source); round%2 == 0 && len(lists) > 0 {
			list = lists[0]
		}
		snaps := anySnaps(source, list, source.Intn(21))
		seens, bottom := impl.Seens(list, snaps), impl.Bottom(list, snaps)
		if !slices.Equal(seens, seensByRule(list, snaps)) || !slices.Equal(bottom, bottomByRule(list, snaps)) {
			t.Fatalf("%v at %v: %v, %v", list, snaps, seens, bottom)
		}
		checkSnaps(t, list, snaps)
		if len(seens) < len(list) {
			fewer++
		}
		if len(bottom) < len(seens) {
			fewerYet++
		}
	}
	if fewer < 100 || fewerYet < 100 {
		t.Fatal(fewer, fewerYet)
	}
}

func TestSeensOfRightLists(t *testing.T) {
	for name, list := range packLists() {
		for _, snaps := range [][]int64{nil, {2}, {1, 5, 150}, {299, 7, 7, 0, -1}, anySeqs[:20], anySeqs[2:]} {
			got, bottom := impl.Seens(list, snaps), impl.Bottom(list, snaps)
			if !slices.Equal(got, seensByRule(list, snaps)) || !slices.Equal(bottom, bottomByRule(list, snaps)) {
				t.Fatalf("%s at %v: %v, %v", name, snaps, got, bottom)
			}
			if len(list) < 30 {
				checkSnaps(t, list, snaps)
			}
		}
	}
}

// In whatever order snaps come, and how often one does, changes nothing; what is left is left once more by the same snaps.
func TestSnapsInAnyOrder(t *testing.T) {
	source := rand.New(rand.NewSource(13))
	for range 200 {
		list := anyRightList(source, 30)
		snaps := anySnaps(source, list, 1+source.Intn(10))
		seens, bottom := impl.Seens(list, snaps), impl.Bottom(list, snaps)
		other := slices.Concat(snaps, snaps)
		source.Shuffle(len(other), func(i, j int) { other[i], other[j] = other[j], other[i] })
		if got := impl.Seens(list, other); !slices.Equal(got, seens) {
			t.Fatal(list, snaps, other, got)
		}
		if got := impl.Bottom(list, other); !slices.Equal(got, bottom) {
			t.Fatal(list, snaps, other, got)
		}
		if got := impl.Seens(seens, snaps); !slices.Equal(got, seens) {
			t.Fatal(list, snaps, got)
		}
		if got := impl.Bottom(bottom, snaps); !slices.Equal(got, bottom) {
			t.Fatal(list, snaps, got)
		}
	}
}

// manyLists has arguments of Merged, right and wrong.
func manyLists() [][][]impl.Entry {
	many := [][][]impl.Entry{
		nil, {nil}, {{}, nil}, {stones(), twoBlocks()}, {twoBlocks(), stones(), stones()}, dealt(numbered(300), 20), dealt(numbered(300), 3),
		slices.Repeat([][]impl.Entry{stones()}, 20), {numbered(300), history("z", 2)}, dealt(numbered(21), 21), {nil, history("k", 9), {}},
	}
	for _, list := range memoryLists() {
		many = append(many, [][]impl.Entry{list}, [][]impl.Entry{stones(), list, numbered(3)})
	}
	return many
}

// withRooms has lists with room behind each of them and behind them all; and all of these, to be looked at later.
func withRooms(lists [][]impl.Entry) ([][]impl.Entry, [][]impl.Entry) {
	all := [][]impl.Entry{}
	for _, list := range slices.Concat(lists, [][]impl.Entry{stones(), numbered(2), nil}) {
		all = append(all, append(slices.Clone(list), numbered(12)...))
	}
	wide := make([][]impl.Entry, len(all))
	for i, list := range all {
		wide[i] = list[:len(list)-12]
	}
	return wide[:len(lists)], all
}

// sameLists looks at the room behind lists too: whether each is where it was, and has what it had.
func sameLists(wide [][]impl.Entry, all [][]impl.Entry, before [][]impl.Entry) bool {
	for i, list := range wide[:len(all)] {
		if len(list) != len(all[i])-12 || cap(list) != cap(all[i]) || &list[:1][0] != &all[i][0] || !slices.Equal(all[i], before[i]) {
			return false
		}
	}
	return true
}

func clonedLists(lists [][]impl.Entry) [][]impl.Entry {
	cloned := [][]impl.Entry{}
	for _, list := range lists {
		cloned = append(cloned, slices.Clip(slices.Clone(list)))
	}
	return slices.Clip(cloned)
}

func TestMergedLeavesItsArguments(t *testing.T) {
	for i, lists := range manyLists() {
		wide, all := withRooms(lists)
		before := clonedLists(all)
		got, ok := impl.Merged(wide)
		if want, is := impl.Merged(clonedLists(lists)); ok != is || !slices.Equal(got, want) {
			t.Fatal("Merged hangs on the room:", i)
		}
		if !sameLists(wide, all, before) {
			t.Fatal("an argument was changed:", i)
		}
	}
}

func TestMergedGivesNewMemory(t *testing.T) {
	spoilt := written("spoilt", "spoilt", 77)
	for i, lists := range manyLists() {
		wide, all := withRooms(lists)
		before := clonedLists(all)
		first, _ := impl.Merged(wide)
		want := slices.Clone(first)
		second, _ := impl.Merged(wide)
		spoil(first, spoilt)
		if !sameLists(wide, all, before) {
			t.Fatal("the answer shares memory with a list:", i)
		}
		for _, list := range all {
			spoil(list, spoilt)
		}
		spoil(wide, nil)
		if third, _ := impl.Merged(lists); !slices.Equal(second, want) || !slices.Equal(third, want) {
			t.Fatal("two answers share memory, or one with a list:", i)
		}
	}
}

// someSnaps has arguments of Seens and Bottom, right and wrong.
func someSnaps() [][]int64 {
	return [][]int64{nil, {}, {5}, {8, 6, 4, 6}, {-1, 0, math.MaxInt64}, anySeqs[:20], anySeqs[1:22], make([]int64, 21)}
}

// ofSnaps are both functions that are asked by snaps.
func ofSnaps() map[string]func([]impl.Entry, []int64) []impl.Entry {
	return map[string]func([]impl.Entry, []int64) []impl.Entry{"Seens": impl.Seens, "Bottom": impl.Bottom}
}

func TestSeensAndBottomLeaveTheirArguments(t *testing.T) {
	for name, answer := range ofSnaps() {
		for _, list := range memoryLists() {
			for _, snaps := range someSnaps() {
				room, more := append(slices.Clone(list), numbered(40)...), append(slices.Clone(snaps), 7, 3, 5)
				roomBefore, moreBefore := slices.Clone(room), slices.Clone(more)
				got := answer(room[:len(list)], more[:len(snaps)])
				if want := answer(slices.Clip(slices.Clone(list)), slices.Clip(slices.Clone(snaps))); !slices.Equal(got, want) {
					t.Fatal(name, "hangs on the room", list, snaps)
				}
				if !slices.Equal(room, roomBefore) || !slices.Equal(more, moreBefore) {
					t.Fatal(name, "changed an argument", list, snaps)
				}
			}
		}
	}
}

func TestSeensAndBottomGiveNewMemory(t *testing.T) {
	spoilt := written("spoilt", "spoilt", 77)
	for name, answer := range ofSnaps() {
		for _, list := range memoryLists() {
			for _, snaps := range someSnaps() {
				room, more := append(slices.Clone(list), numbered(40)...), slices.Clone(snaps)
				before := slices.Clone(room)
				first := answer(room[:len(list)], more)
				want := slices.Clone(first)
				second := answer(room[:len(list)], more)
				spoil(first, spoilt)
				if !slices.Equal(room, before) || !slices.Equal(more, snaps) {
					t.Fatal(name, "shares memory with an argument", list, snaps)
				}
				spoil(room, spoilt)
				spoil(more, 77)
				if third := answer(list, snaps); !slices.Equal(second, want) || !slices.Equal(third, want) {
					t.Fatal(name, "shares memory of two answers, or with an argument", list, snaps)
				}
			}
		}
	}
}
