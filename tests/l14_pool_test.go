package tests

import (
	"cmp"
	"fmt"
	"math"
	"math/rand"
	"slices"
	"strconv"
	"strings"
	"testing"

	"loop.example/g00217/impl"
)

// The numbers of the document, written out again.
const mostOffers = 50
const mostOfferText = 60

// offer reads one of digits and letters: 9d has Fee 9 and Text d, 9 no Text.
func offer(word string) impl.Offer {
	text := strings.TrimLeft(word, "0123456789")
	fee, err := strconv.ParseInt(strings.TrimSuffix(word, text), 10, 64)
	if err != nil {
		panic(word)
	}
	return impl.Offer{Fee: fee, Text: text}
}

// offerList reads words with blanks between, place by place.
func offerList(words string) []impl.Offer {
	list := []impl.Offer{}
	for _, word := range strings.Fields(words) {
		list = append(list, offer(word))
	}
	return list
}

// feesOf has Offers without a Text.
func feesOf(fees ...int64) []impl.Offer {
	list := []impl.Offer{}
	for _, fee := range fees {
		list = append(list, impl.Offer{Fee: fee})
	}
	return list
}

// falling has n Offers of which each is ahead of all behind it, so that each place may be anybody's.
func falling(n int) []impl.Offer {
	list := []impl.Offer{}
	for i := range n {
		list = append(list, impl.Offer{Fee: int64(1000 - 10*i), Text: fmt.Sprint("at ", i)})
	}
	return list
}

// fallingTexts has n Offers of one Fee, each ahead of all behind it.
func fallingTexts(n int) []impl.Offer {
	list := []impl.Offer{}
	for i := range n {
		list = append(list, impl.Offer{Fee: 7, Text: fmt.Sprintf("at %03d", 10*i)})
	}
	return list
}

func alikeOffers(n int) []impl.Offer {
	return slices.Repeat([]impl.Offer{{Fee: 5, Text: "same"}}, n)
}

func withOffer(list []impl.Offer, at int, o impl.Offer) []impl.Offer {
	out := slices.Clone(list)
	out[at] = o
	return out
}

func offerByRule(o impl.Offer) bool {
	return between([]int64{o.Fee}, mostMoney) && len(o.Text) <= mostOfferText
}

// offerOrder is below 0 where a is ahead of b, and 0 where neither is.
func offerOrder(a impl.Offer, b impl.Offer) int {
	return cmp.Or(cmp.Compare(b.Fee, a.Fee), strings.Compare(a.Text, b.Text))
}

// poolByRule asks from above: neither of the two below a place is ahead of it.
func poolByRule(list []impl.Offer) bool {
	if len(list) > mostOffers {
		return false
	}
	for i, o := range list {
		if !offerByRule(o) {
			return false
		}
		for _, below := range []int{2*i + 1, 2*i + 2} {
			if below < len(list) && offerOrder(list[below], o) < 0 {
				return false
			}
		}
	}
	return true
}

// offeredByRule goes up along the places, each half of the one below.
func offeredByRule(list []impl.Offer, o impl.Offer) ([]impl.Offer, bool) {
	if !poolByRule(list) || !offerByRule(o) || len(list) >= mostOffers {
		return nil, false
	}
	out := append(slices.Clone(list), o)
	// Counted from 1 on, what is above a place is at half its number.
	for place := len(out); place > 1 && offerOrder(out[place-1], out[place/2-1]) < 0; place /= 2 {
		out[place-1], out[place/2-1] = out[place/2-1], out[place-1]
	}
	return out, true
}

func nextOfferByRule(list []impl.Offer) (impl.Offer, []impl.Offer, bool) {
	if !poolByRule(list) || len(list) == 0 {
		return impl.Offer{}, nil, false
	}
	out := slices.Clone(list)
	first, last := out[0], len(out)-1
	out[0] = out[last]
	out = out[:last]
	for at := 0; ; {
		to := at
		for _, below := range []int{2*at + 1, 2*at + 2} {
			if below < len(out) && offerOrder(out[below], out[to]) < 0 {
				to = below
			}
		}
		if to == at {
			return first, out, true
		}
		out[at], out[to] = out[to], out[at]
		at = to
	}
}

// chosenByRule knows of no places: who is ahead of all comes first.
func chosenByRule(list []impl.Offer, n int64) []string {
	if !poolByRule(list) || n < 0 {
		return nil
	}
	texts := []string{}
	for _, o := range slices.SortedFunc(slices.Values(list), offerOrder) {
		if int64(len(texts)) < n {
			texts = append(texts, o.Text)
		}
	}
	return texts
}

func rightOffers() map[string]impl.Offer {
	return map[string]impl.Offer{
		"zero":                 {},
		"Fee 0":                {Fee: 0, Text: "a"},
		"Fee 1":                {Fee: 1, Text: "a"},
		"Fee MaxMoney - 1":     {Fee: mostMoney - 1, Text: "a"},
		"Fee MaxMoney":         {Fee: mostMoney, Text: "a"},
		"no Text":              {Fee: 3},
		"59 bytes":             {Fee: 3, Text: sized(59)},
		"60 bytes":             {Fee: 3, Text: sized(60)},
		"60 bytes, 30 letters": {Fee: 3, Text: strings.Repeat("\u00e9", 30)},
		"60 bytes 0":           {Fee: 3, Text: strings.Repeat("\x00", 60)},
		"60 bytes 255":         {Fee: 3, Text: strings.Repeat("\xff", 60)},
		"all at once":          {Fee: mostMoney, Text: sized(60)},
	}
}

func wrongOffers() map[string]impl.Offer {
	return map[string]impl.Offer{
		"Fee -1":               {Fee: -1, Text: "a"},
		"Fee MaxMoney + 1":     {Fee: mostMoney + 1, Text: "a"},
		"the least Fee":        {Fee: math.MinInt64, Text: "a"},
		"the greatest Fee":     {Fee: math.MaxInt64, Text: "a"},
		"Fee 2^32":             {Fee: 1 << 32, Text: "a"},
		"Fee -2^32":            {Fee: -1 << 32, Text: "a"},
		"Fee 2^32 + 5":         {Fee: 1<<32 + 5, Text: "a"},
		"61 bytes":             {Fee: 3, Text: sized(61)},
		"62 bytes, 31 letters": {Fee: 3, Text: strings.Repeat("\u00e9", 31)},
		"61 bytes 0":           {Fee: 3, Text: strings.Repeat("\x00", 61)},
		"3000 bytes":           {Fee: 3, Text: sized(3000)},
		"Fee -1 without Text":  {Fee: -1},
		"both":                 {Fee: mostMoney + 1, Text: sized(61)},
	}
}

func rightPools() map[string][]impl.Offer {
	pools := map[string][]impl.Offer{
		"nil":                  nil,
		"none":                 {},
		"one":                  offerList("5c"),
		"two":                  offerList("5c 2b"),
		"two alike":            offerList("5c 5c"),
		"two with one Fee":     offerList("5b 5c"),
		"two with one Text":    offerList("5c 4c"),
		"less, and less Text":  offerList("5z 4a"),
		"three, first below":   offerList("9a 8a 7a"),
		"three, second below":  offerList("9a 7a 8a"),
		"three alike":          offerList("9a 9a 9a"),
		"four":                 offerList("9d 5c 2a 2b"),
		"seven, unlike sides":  offerList("9a 3a 8a 1a 2a 7a 6a"),
		"seven, side by side":  offerList("9a 8a 3a 7a 6a 2a 1a"),
		"the Fees at the ends": {{Fee: mostMoney}, {Fee: mostMoney}, {Fee: 0}, {Fee: 0}},
		"no Fees, no Texts":    feesOf(0, 0, 0, 0, 0),
		"49, falling":          falling(49),
		"50, falling":          falling(50),
		"50, falling by Text":  fallingTexts(50),
		"49 alike":             alikeOffers(49),
		"50 alike":             alikeOffers(50),
		"50 of 60 bytes":       slices.Repeat([]impl.Offer{{Fee: mostMoney, Text: sized(60)}}, 50),
		"Texts of which one is begun with by the next": {{Fee: 1, Text: ""}, {Fee: 1, Text: "a"}, {Fee: 1, Text: "\x00"}, {Fee: 1, Text: "aa"}, {Fee: 1, Text: "a\x00"}},
		"bytes past 127": {{Fee: 1, Text: "z"}, {Fee: 1, Text: "\u00e9"}, {Fee: 1, Text: "\x7f"}, {Fee: 1, Text: "\xff"}, {Fee: 1, Text: "\u00e9a"}},
	}
	for name, o := range rightOffers() {
		pools[name+", alone"] = []impl.Offer{o}
		pools[name+", twice"] = []impl.Offer{o, o}
		pools[name+", below the most"] = []impl.Offer{{Fee: mostMoney}, o, o}
	}
	return pools
}

func wrongPools() map[string][]impl.Offer {
	pools := map[string][]impl.Offer{
		"51, falling":         falling(51),
		"51, falling by Text": fallingTexts(51),
		"51 alike":            alikeOffers(51),
		"100 alike":           alikeOffers(100),
		"51 zero ones":        make([]impl.Offer, 51),
		"two, rising":         offerList("4c 5c"),
		"two, rising by Text": offerList("5c 5b"),
		"rising by no Text":   offerList("5a 5"),
		"three, the first":    offerList("5c 6c 4c"),
		"three, the second":   offerList("5c 4c 6c"),
		"four, the last":      offerList("9d 5c 2a 5b"),
		"four, below another": offerList("9d 5c 2a 6c"),
		"rising":              offerList("1a 2a 3a 4a 5a"),
		"rising by one byte":  {{Fee: 1, Text: "\xff"}, {Fee: 1, Text: "z"}},
		"rising by a part":    {{Fee: 1, Text: "aa"}, {Fee: 1, Text: "a"}},
	}
	for name, o := range wrongOffers() {
		pools[name+", alone"] = []impl.Offer{o}
		pools[name+", twice"] = []impl.Offer{o, o}
		pools[name+", first"] = []impl.Offer{o, {}, {}}
		pools[name+", in the middle"] = append(withOffer(offerList("9a 8a 7a 6a"), 1, o), offer("0z"))
		pools[name+", last"] = append(falling(20), o)
		pools[name+", last of 50"] = append(falling(49), o)
	}
	return pools
}

func somePools() map[string][]impl.Offer {
	pools := rightPools()
	for name, list := range wrongPools() {
		pools["wrong: "+name] = list
	}
	return pools
}

func wantOffered(t *testing.T, name string, list []impl.Offer, o impl.Offer, want []impl.Offer) {
	t.Helper()
	got, is := impl.Offered(list, o)
	if !is || !slices.Equal(got, want) {
		t.Errorf("%s: %v with %v: %v and %v, not %v", name, list, o, got, is, want)
	}
}

func refuseOffered(t *testing.T, name string, list []impl.Offer, o impl.Offer) {
	t.Helper()
	if got, is := impl.Offered(list, o); is || len(got) != 0 {
		t.Errorf("%s: %v with %v: %v and %v", name, list, o, got, is)
	}
}

func wantNext(t *testing.T, name string, list []impl.Offer, want impl.Offer, left []impl.Offer) {
	t.Helper()
	got, rest, is := impl.Next(list)
	if !is || got != want || !slices.Equal(rest, left) {
		t.Errorf("%s: %v: %v, %v and %v, not %v and %v", name, list, got, rest, is, want, left)
	}
}

func refuseNext(t *testing.T, name string, list []impl.Offer) {
	t.Helper()
	if got, rest, is := impl.Next(list); is || got != (impl.Offer{}) || len(rest) != 0 {
		t.Errorf("%s: %v: %v, %v and %v", name, list, got, rest, is)
	}
}

// wantPool asks all functions of a list, right or not, against the rule.
func wantPool(t *testing.T, list []impl.Offer, others ...impl.Offer) bool {
	t.Helper()
	before := slices.Clone(list)
	is := poolByRule(list)
	if impl.PoolOk(list) != is {
		t.Fatalf("%v: %v", list, !is)
	}
	for _, o := range others {
		want, can := offeredByRule(list, o)
		if got, ok := impl.Offered(list, o); ok != can || !slices.Equal(got, want) {
			t.Fatalf("%v with %v: %v and %v, not %v and %v", list, o, got, ok, want, can)
		}
	}
	want, left, some := nextOfferByRule(list)
	if got, rest, ok := impl.Next(list); ok != some || got != want || !slices.Equal(rest, left) {
		t.Fatalf("%v: %v, %v and %v, not %v, %v and %v", list, got, rest, ok, want, left, some)
	}
	for _, n := range []int64{math.MinInt64, -1, 0, 1, int64(len(list)) / 2, int64(len(list)) - 1, int64(len(list)), int64(len(list)) + 1, math.MaxInt64} {
		if got := impl.Chosen(list, n); !slices.Equal(got, chosenByRule(list, n)) {
			t.Fatalf("%d of %v: %q, not %q", n, list, got, chosenByRule(list, n))
		}
	}
	if !slices.Equal(list, before) {
		t.Fatalf("%v was %v", list, before)
	}
	return is
}

// allTold asks Next until there is none.
func allTold(t *testing.T, list []impl.Offer) []impl.Offer {
	t.Helper()
	told := []impl.Offer{}
	for {
		o, rest, is := impl.Next(list)
		if !is {
			if len(list) != 0 {
				t.Fatalf("%v has no next", list)
			}
			return told
		}
		if len(rest) != len(list)-1 || !impl.PoolOk(rest) {
			t.Fatalf("%v leaves %v", list, rest)
		}
		told, list = append(told, o), rest
	}
}

// allOffered offers one behind the other onto none.
func allOffered(t *testing.T, list []impl.Offer) []impl.Offer {
	t.Helper()
	pool := []impl.Offer(nil)
	for _, o := range list {
		next, is := impl.Offered(pool, o)
		if !is || !impl.PoolOk(next) || len(next) != len(pool)+1 {
			t.Fatalf("%v with %v: %v and %v", pool, o, next, is)
		}
		pool = next
	}
	return pool
}

// checkOrder asks promise 14: Next tells all that was offered, each once, in order, and Chosen the same.
func checkOrder(t *testing.T, list []impl.Offer) {
	t.Helper()
	pool := allOffered(t, list)
	want := slices.SortedFunc(slices.Values(list), offerOrder)
	if told := allTold(t, pool); !slices.Equal(told, want) {
		t.Fatalf("%v tells %v, not %v", list, told, want)
	}
	texts := []string{}
	for n, o := range want {
		if got := impl.Chosen(pool, int64(n)); !slices.Equal(got, texts) {
			t.Fatalf("%d of %v: %q, not %q", n, list, got, texts)
		}
		texts = append(texts, o.Text)
	}
	for _, n := range []int64{int64(len(list)), int64(len(list)) + 1, mostOffers, math.MaxInt64} {
		if got := impl.Chosen(pool, n); !slices.Equal(got, texts) {
			t.Fatalf("%d of %v: %q, not %q", n, list, got, texts)
		}
	}
}

func anyOffer(source *rand.Rand) impl.Offer {
	fees := []int64{0, 1, 2, 3, mostMoney - 1, mostMoney, source.Int63n(mostMoney + 1), source.Int63n(20)}
	text := make([]byte, source.Intn(1+[]int{0, 1, 3, mostOfferText}[source.Intn(4)]))
	for i := range text {
		text[i] = "ab\x00\xff\xc3"[source.Intn(5)]
	}
	return impl.Offer{Fee: fees[source.Intn(len(fees))], Text: string(text)}
}

func anyPool(source *rand.Rand, size int) []impl.Offer {
	list := []impl.Offer{}
	for range size {
		list, _ = offeredByRule(list, anyOffer(source))
	}
	return list
}

func TestConstantsOfPools(t *testing.T) {
	if impl.MaxPool != mostOffers || impl.MaxMoney != mostMoney {
		t.Fatal(impl.MaxPool, impl.MaxMoney)
	}
}

func TestPoolOkOfRightPools(t *testing.T) {
	for name, list := range rightPools() {
		if !impl.PoolOk(list) || !poolByRule(list) {
			t.Error(name)
		}
	}
}

func TestPoolOkOfWrongPools(t *testing.T) {
	for name, list := range wrongPools() {
		if impl.PoolOk(list) || poolByRule(list) {
			t.Error(name)
		}
	}
}

// Each Fee and each size of a Text around the ends, at each place of a pool in which only it may be wrong.
func TestPoolOkOfEachOffer(t *testing.T) {
	for size := 1; size <= 9; size++ {
		for at := range size {
			for _, fee := range []int64{math.MinInt64, -1, 0, 1, mostMoney - 1, mostMoney, mostMoney + 1, math.MaxInt64} {
				for _, room := range []int{0, 1, 59, 60, 61, 256, 3000} {
					// Above it are the most and below it the least, as far as they are right.
					list := slices.Repeat([]impl.Offer{{Fee: 0, Text: strings.Repeat("\xff", 60)}}, size)
					for above := at; above > 0; {
						above = (above - 1) / 2
						list[above] = impl.Offer{Fee: mostMoney}
					}
					list[at] = impl.Offer{Fee: fee, Text: sized(room)}
					if got := impl.PoolOk(list); got != (fee >= 0 && fee <= 1000000000 && room <= 60) {
						t.Fatalf("Fee %d and %d bytes at %d of %d: %v", fee, room, at, size, got)
					}
				}
			}
		}
	}
}

// One Offer alone is ahead of the one above it, at each place of pools of each size.
func TestPoolOkOfEachPlace(t *testing.T) {
	for what, of := range map[string]func(int) []impl.Offer{"Fee": falling, "Text": fallingTexts} {
		for size := 2; size <= mostOffers; size++ {
			for at := 1; at < size; at++ {
				list := of(size)
				// As the one above it, then just ahead of it: the first is right, the second is not.
				above := list[(at-1)/2]
				list[at] = above
				if !impl.PoolOk(list) {
					t.Fatalf("by %s, number %d of %d is as the one above, and refused", what, at, size)
				}
				if what == "Fee" {
					list[at].Fee++
				} else {
					list[at].Text = list[at].Text[:len(list[at].Text)-1]
				}
				if impl.PoolOk(list) {
					t.Fatalf("by %s, number %d of %d is ahead, and taken", what, at, size)
				}
				refuseOffered(t, what, list, offer("0z"))
				refuseNext(t, what, list)
				if got := impl.Chosen(list, 3); len(got) != 0 {
					t.Fatalf("by %s, number %d of %d: %q", what, at, size, got)
				}
			}
		}
	}
}

// Of two, each is held against each: Fees first, and Texts by their bytes where the Fees are alike.
func TestPoolOkOfEachTwo(t *testing.T) {
	two := []impl.Offer{}
	for _, fee := range []int64{0, 1, 2, 9, 10, mostMoney} {
		for _, text := range []string{"", "\x00", "a", "a\x00", "aa", "b", "B", "10", "9", "z", "\x7f", "\x80", "\u00e9", "\xff", "\xff\xff"} {
			two = append(two, impl.Offer{Fee: fee, Text: text})
		}
	}
	for _, a := range two {
		for _, b := range two {
			behind := b.Fee > a.Fee || b.Fee == a.Fee && b.Text < a.Text
			list := []impl.Offer{a, b}
			if got := impl.PoolOk(list); got == behind {
				t.Fatalf("%v: %v", list, got)
			}
			want := []impl.Offer{a, b}
			if behind {
				want = []impl.Offer{b, a}
			}
			wantOffered(t, "two", []impl.Offer{a}, b, want)
		}
	}
}

func TestPoolsKeepOutOfTheSpareRoom(t *testing.T) {
	for name, behind := range map[string][]impl.Offer{"one that is ahead": offerList("99a"), "one that is wrong": {{Fee: -1}}, "many": falling(60)} {
		list := roomy(offerList("9d 5c 2a"), behind...)
		if !impl.PoolOk(list) {
			t.Error(name, "in the room is asked for")
		}
		wantOffered(t, name, list, offer("7e"), offerList("9d 7e 2a 5c"))
		wantNext(t, name, list, offer("9d"), offerList("5c 2a"))
		if got := impl.Chosen(list, 9); !slices.Equal(got, []string{"d", "c", "a"}) {
			t.Error(name, got)
		}
		if !slices.Equal(list[:cap(list)][3:3+len(behind)], behind) {
			t.Error(name, "is no more")
		}
		refuseNext(t, name, list[:0])
	}
}

func TestOfferedOfForms(t *testing.T) {
	for name, c := range map[string]struct {
		list  string
		offer string
		want  string
	}{
		"onto none":                          {"", "5c", "5c"},
		"the zero Offer onto none":           {"", "0", "0"},
		"onto one, to the front":             {"5c", "6c", "6c 5c"},
		"onto one, to the end":               {"5c", "4c", "5c 4c"},
		"onto one, to the front by Text":     {"5c", "5b", "5b 5c"},
		"onto one, to the end by Text":       {"5c", "5d", "5c 5d"},
		"onto one, a part of its Text":       {"5cc", "5c", "5c 5cc"},
		"onto one, longer than its Text":     {"5c", "5cc", "5c 5cc"},
		"onto one, no Text":                  {"5c", "5", "5 5c"},
		"onto one, the same":                 {"5c", "5c", "5c 5c"},
		"more Fee and a greater Text":        {"5c", "6z", "6z 5c"},
		"less Fee and a less Text":           {"5c", "4a", "5c 4a"},
		"a Fee of more digits":               {"9a", "10a", "10a 9a"},
		"a third, to the front":              {"9a 5a", "10a", "10a 5a 9a"},
		"a third, to the end":                {"9a 5a", "7a", "9a 5a 7a"},
		"a third, below both":                {"9a 5a", "3a", "9a 5a 3a"},
		"a third, as the first":              {"9a 5a", "9a", "9a 5a 9a"},
		"a fourth, to the front":             {"9a 5a 7a", "10a", "10a 9a 7a 5a"},
		"a fourth, between":                  {"9a 5a 7a", "6a", "9a 6a 7a 5a"},
		"a fourth, between by Text":          {"9a 5c 7a", "5b", "9a 5b 7a 5c"},
		"a fourth, to the end":               {"9a 5a 7a", "1a", "9a 5a 7a 1a"},
		"a fourth, as the one above":         {"9a 5a 7a", "5a", "9a 5a 7a 5a"},
		"a fourth, as the first":             {"9a 5a 7a", "9a", "9a 9a 7a 5a"},
		"a fifth, between":                   {"9a 5a 7a 1a", "6a", "9a 6a 7a 1a 5a"},
		"a sixth, on the other side":         {"9a 5a 7a 1a 2a", "8a", "9a 5a 8a 1a 2a 7a"},
		"a seventh, on the other side":       {"9a 5a 7a 1a 2a 3a", "8a", "9a 5a 8a 1a 2a 3a 7a"},
		"an eighth, by three places":         {"9a 5a 7a 4a 2a 3a 1a", "10a", "10a 9a 7a 5a 2a 3a 1a 4a"},
		"an eighth, by two places":           {"9a 5a 7a 4a 2a 3a 1a", "6a", "9a 6a 7a 5a 2a 3a 1a 4a"},
		"an eighth, by one place":            {"9a 5a 7a 3a 2a 4a 1a", "4a", "9a 5a 7a 4a 2a 4a 1a 3a"},
		"an eighth, by none":                 {"9a 5a 7a 3a 2a 4a 1a", "3b", "9a 5a 7a 3a 2a 4a 1a 3b"},
		"an eighth, by Texts":                {"9b 9c 9d 9e 9f 9g 9h", "9a", "9a 9b 9d 9c 9f 9g 9h 9e"},
		"an eighth, between by Texts":        {"9b 9d 9d 9f 9f 9g 9h", "9c", "9b 9c 9d 9d 9f 9g 9h 9f"},
		"an eighth, behind its like":         {"9b 9d 9d 9f 9f 9g 9h", "9d", "9b 9d 9d 9d 9f 9g 9h 9f"},
		"an eighth, as all":                  {"9b 9b 9b 9b 9b 9b 9b", "9b", "9b 9b 9b 9b 9b 9b 9b 9b"},
		"an eighth, ahead of all alike":      {"9b 9b 9b 9b 9b 9b 9b", "9a", "9a 9b 9b 9b 9b 9b 9b 9b"},
		"the document's, with another order": {"9d 5c 2a 2b", "5b", "9d 5b 2a 2b 5c"},
	} {
		list, o, want := offerList(c.list), offer(c.offer), offerList(c.want)
		if !poolByRule(list) || !poolByRule(want) {
			t.Fatalf("%s is no pool", name)
		}
		wantOffered(t, name, list, o, want)
		if c.list == "" {
			wantOffered(t, name, nil, o, want)
		}
	}
}

func TestOfferedOfRightOffers(t *testing.T) {
	for name, o := range rightOffers() {
		wantOffered(t, name, nil, o, []impl.Offer{o})
		wantOffered(t, name, []impl.Offer{o}, o, []impl.Offer{o, o})
		for what, list := range rightPools() {
			want, is := offeredByRule(list, o)
			if is != (len(list) < 50) {
				t.Fatal(what)
			}
			if got, ok := impl.Offered(list, o); ok != is || !slices.Equal(got, want) {
				t.Errorf("%s onto %s: %v and %v", name, what, got, ok)
			}
		}
	}
}

// The last one has room, and none behind it, wherever it would go.
func TestOfferedUntilFull(t *testing.T) {
	for what, of := range map[string]func(int) []impl.Offer{"Fee": falling, "Text": fallingTexts, "none": alikeOffers} {
		for name, o := range map[string]impl.Offer{"to the front": {Fee: mostMoney}, "to the end": {Fee: 0, Text: "z"}, "between": {Fee: 700, Text: "b"}, "there already": of(1)[0]} {
			want, is := offeredByRule(of(49), o)
			if !is || len(want) != 50 {
				t.Fatal(what, name)
			}
			wantOffered(t, what+", "+name, of(49), o, want)
			refuseOffered(t, what+", "+name, of(50), o)
			refuseOffered(t, what+", "+name, want, o)
			refuseOffered(t, what+", "+name, of(51), o)
		}
	}
	list := []impl.Offer(nil)
	for n := range 60 {
		next, is := impl.Offered(list, impl.Offer{Fee: int64(n)})
		if is != (n < 50) {
			t.Fatalf("number %d: %v", n, is)
		}
		if is {
			list = next
		}
	}
	if len(list) != 50 || list[0].Fee != 49 || !impl.PoolOk(list) {
		t.Fatal(list)
	}
}

func TestOfferedOfWhatIsNotRight(t *testing.T) {
	for name, o := range wrongOffers() {
		for what, list := range somePools() {
			refuseOffered(t, name+" onto "+what, list, o)
		}
	}
	for name, o := range rightOffers() {
		for what, list := range wrongPools() {
			refuseOffered(t, name+" onto "+what, list, o)
		}
	}
}

func TestNextOfForms(t *testing.T) {
	for name, c := range map[string]struct {
		list string
		want string
		left string
	}{
		"one":                                   {"5c", "5c", ""},
		"the zero Offer":                        {"0", "0", ""},
		"two":                                   {"5c 2b", "5c", "2b"},
		"two alike":                             {"5c 5c", "5c", "5c"},
		"three, the first below":                {"9a 8a 7a", "9a", "8a 7a"},
		"three, the second below":               {"9a 7a 8a", "9a", "8a 7a"},
		"three, by Text":                        {"9a 9b 9c", "9a", "9b 9c"},
		"three, the second below by Text":       {"9a 9c 9b", "9a", "9b 9c"},
		"three, alike below":                    {"9a 7a 7a", "9a", "7a 7a"},
		"three alike":                           {"9a 9a 9a", "9a", "9a 9a"},
		"four, the first below":                 {"9a 8a 7a 1a", "9a", "8a 1a 7a"},
		"four, the second below":                {"9a 7a 8a 1a", "9a", "8a 7a 1a"},
		"four, the first of two alike":          {"9a 8a 8a 1a", "9a", "8a 1a 8a"},
		"four, the second by Text":              {"9a 8c 8b 1a", "9a", "8b 8c 1a"},
		"four, the first by Text":               {"9a 8b 8c 1a", "9a", "8b 1a 8c"},
		"four, the last one as the first below": {"9a 8a 7a 8a", "9a", "8a 8a 7a"},
		"four, the last one behind the first":   {"9a 8a 7a 8b", "9a", "8a 8b 7a"},
		"five, the last one as below":           {"9a 5a 8a 5a 5a", "9a", "8a 5a 5a 5a"},
		"five, one alone below":                 {"9a 8a 7a 6a 1a", "9a", "8a 6a 7a 1a"},
		"five, one alone below that stays":      {"9a 8a 7a 1a 6a", "9a", "8a 6a 7a 1a"},
		"five, one alone below and alike":       {"9a 8a 7a 6a 6a", "9a", "8a 6a 7a 6a"},
		"six, the first and the first":          {"9a 8a 7a 6a 5a 1a", "9a", "8a 6a 7a 1a 5a"},
		"six, the first and the second":         {"9a 8a 7a 5a 6a 1a", "9a", "8a 6a 7a 5a 1a"},
		"six, the first of two alike twice":     {"9a 8a 8a 7a 7a 1a", "9a", "8a 7a 8a 1a 7a"},
		"six, the second and no more":           {"9a 7a 8a 6a 5a 1a", "9a", "8a 7a 1a 6a 5a"},
		"six, the first and no more":            {"9a 8a 7a 5a 4a 6a", "9a", "8a 6a 7a 5a 4a"},
		"seven, the second and one alone":       {"9a 7a 8a 6a 5a 3a 1a", "9a", "8a 7a 3a 6a 5a 1a"},
		"seven, the second and it stays":        {"9a 7a 8a 6a 5a 1a 3a", "9a", "8a 7a 3a 6a 5a 1a"},
		"eight, the second and the second":      {"9a 7a 8a 6a 5a 3a 4a 1a", "9a", "8a 7a 4a 6a 5a 3a 1a"},
		"eight, the second and the first":       {"9a 7a 8a 6a 5a 4a 3a 1a", "9a", "8a 7a 4a 6a 5a 1a 3a"},
		"nine, one alone at the third step":     {"9a 8a 7a 6a 5a 1a 1a 2a 0a", "9a", "8a 6a 7a 2a 5a 1a 1a 0a"},
		"alike ones and the last one behind":    {"9a 9a 9a 9a 9b", "9a", "9a 9a 9a 9b"},
		"the document's":                        {"9d 5c 2a 2b", "9d", "5c 2b 2a"},
	} {
		list, want, left := offerList(c.list), offer(c.want), offerList(c.left)
		if !poolByRule(list) || !poolByRule(left) {
			t.Fatalf("%s is no pool", name)
		}
		wantNext(t, name, list, want, left)
	}
}

func TestNextOfRightPools(t *testing.T) {
	for name, list := range rightPools() {
		want, left, is := nextOfferByRule(list)
		if is != (len(list) > 0) {
			t.Fatal(name)
		}
		if !is {
			refuseNext(t, name, list)
			continue
		}
		wantNext(t, name, list, want, left)
	}
}

func TestNextOfWhatIsNotRight(t *testing.T) {
	refuseNext(t, "nil", nil)
	refuseNext(t, "none", []impl.Offer{})
	for name, list := range wrongPools() {
		refuseNext(t, name, list)
	}
}

func TestChosenOfForms(t *testing.T) {
	list := offerList("9d 5c 2a 2b")
	for n, want := range map[int64][]string{
		math.MinInt64: nil,
		-1 << 32:      nil,
		-4:            nil,
		-1:            nil,
		0:             nil,
		1:             {"d"},
		2:             {"d", "c"},
		3:             {"d", "c", "a"},
		4:             {"d", "c", "a", "b"},
		5:             {"d", "c", "a", "b"},
		9:             {"d", "c", "a", "b"},
		50:            {"d", "c", "a", "b"},
		51:            {"d", "c", "a", "b"},
		1 << 32:       {"d", "c", "a", "b"},
		1<<32 + 1:     {"d", "c", "a", "b"},
		math.MaxInt64: {"d", "c", "a", "b"},
	} {
		if got := impl.Chosen(list, n); !slices.Equal(got, want) {
			t.Errorf("%d: %q, not %q", n, got, want)
		}
		if got := impl.Chosen(nil, n); len(got) != 0 {
			t.Errorf("%d of none: %q", n, got)
		}
	}
	for words, want := range map[string][]string{
		"9a 8a 7b 8a":          {"a", "a", "a", "b"},
		"9 8a 8":               {"", "", "a"},
		"9a 3b 8c 1d 2e 7f 6g": {"a", "c", "f", "g", "b", "e", "d"},
		"9b 9c 9d":             {"b", "c", "d"},
		"9b 9d 9c":             {"b", "c", "d"},
		"9c 9c 9c":             {"c", "c", "c"},
	} {
		if got := impl.Chosen(offerList(words), 50); !slices.Equal(got, want) {
			t.Errorf("%s: %q, not %q", words, got, want)
		}
	}
}

func TestChosenOfWhatIsNotRight(t *testing.T) {
	for name, list := range wrongPools() {
		for _, n := range []int64{math.MinInt64, -1, 0, 1, 3, 50, 51, math.MaxInt64} {
			if got := impl.Chosen(list, n); len(got) != 0 {
				t.Errorf("%d of %s: %q", n, name, got)
			}
		}
	}
}

// Chosen tells what Next tells again and again, for each n.
func TestChosenByNext(t *testing.T) {
	for name, list := range rightPools() {
		texts := []string{}
		for _, o := range allTold(t, list) {
			texts = append(texts, o.Text)
		}
		if len(texts) != len(list) {
			t.Fatal(name, texts)
		}
		for n := range int64(53) {
			if got := impl.Chosen(list, n); !slices.Equal(got, texts[:min(n, int64(len(texts)))]) {
				t.Fatalf("%d of %s: %q", n, name, got)
			}
		}
	}
}

// All short lists of a few Offers, one of them wrong: each function does as the rule tells.
func TestPoolsOfAllShortLists(t *testing.T) {
	for name, c := range map[string]struct {
		offers []impl.Offer
		room   int
	}{
		"Fees and Texts": {offerList("2a 2b 1a 1b"), 6},
		"three Fees":     {offerList("3 2 1"), 8},
		"a wrong one":    {append(offerList("2a 1b"), impl.Offer{Fee: -1}), 6},
		"Texts":          {offerList("1 1a 1aa"), 7},
	} {
		letters := []byte{}
		for i := range c.offers {
			letters = append(letters, byte(i))
		}
		right, wrong := 0, 0
		for _, data := range allOver(letters, c.room) {
			list := []impl.Offer{}
			for _, b := range data {
				list = append(list, c.offers[b])
			}
			if wantPool(t, list, c.offers...) {
				right++
			} else {
				wrong++
			}
		}
		if right < 40 || wrong < 500 {
			t.Fatal(name, right, wrong)
		}
	}
}

// Whatever the order in which they are Offered, Next tells them in order.
func TestNextInOrderOfAllOrders(t *testing.T) {
	for _, words := range []string{"", "5a", "5a 4a", "5a 5a", "5a 4a 3a 2a 1a", "5a 5b 5c 5d 5e", "3a 3b 2a 2b 1a 1b", "3a 3a 2b 2b 1a 1a 1a", "7a 6b 5c 4d 3e 2f 1g", "2 2a 2aa 1 1 1a 0"} {
		list := offerList(words)
		count := 0
		var ordered func(at int)
		ordered = func(at int) {
			if at == len(list) {
				checkOrder(t, list)
				count++
				return
			}
			for i := at; i < len(list); i++ {
				list[at], list[i] = list[i], list[at]
				ordered(at + 1)
				list[at], list[i] = list[i], list[at]
			}
		}
		ordered(0)
		want := 1
		for n := range len(list) {
			want *= n + 1
		}
		if count != want {
			t.Fatal(words, count)
		}
	}
}

func TestNextInOrderOfAnyOffers(t *testing.T) {
	source := rand.New(rand.NewSource(55))
	full := 0
	for range 600 {
		list := []impl.Offer{}
		for range source.Intn(mostOffers + 1) {
			list = append(list, anyOffer(source))
		}
		if source.Intn(10) == 0 {
			for len(list) < mostOffers {
				list = append(list, anyOffer(source))
			}
		}
		if len(list) == mostOffers {
			full++
		}
		checkOrder(t, list)
		slices.SortFunc(list, offerOrder)
		checkOrder(t, list)
		slices.Reverse(list)
		checkOrder(t, list)
	}
	if full < 30 {
		t.Fatal(full)
	}
}

// Lists that are right and lists that are not, by one change or some.
func TestPoolsByRule(t *testing.T) {
	source := rand.New(rand.NewSource(56))
	right, wrong := 0, 0
	for range 12000 {
		list := anyPool(source, source.Intn(mostOffers+1))
		for range source.Intn(5) {
			if len(list) == 0 {
				break
			}
			switch at := source.Intn(len(list)); source.Intn(5) {
			case 0:
				list[at] = anyOffer(source)
			case 1:
				list[at].Fee += source.Int63n(3) - 1
			case 2:
				other := source.Intn(len(list))
				list[at], list[other] = list[other], list[at]
			case 3:
				list[at].Text = list[at].Text[:len(list[at].Text)/2]
			case 4:
				list[at].Text += "a"
			}
		}
		for source.Intn(20) == 0 {
			list = append(list, impl.Offer{Text: strings.Repeat("\xff", 60)})
		}
		if wantPool(t, list, anyOffer(source), impl.Offer{Fee: -1}, impl.Offer{Text: sized(61)}) {
			right++
		} else {
			wrong++
		}
	}
	if right < 3000 || wrong < 3000 {
		t.Fatal(right, wrong)
	}
}

// A pool that is offered to and asked in turn tells at each time who is ahead of all that are there.
func TestPoolsByAnyScript(t *testing.T) {
	source := rand.New(rand.NewSource(57))
	told, refused, full := 0, 0, 0
	for range 150 {
		pool, there := []impl.Offer(nil), []impl.Offer{}
		lean := 3 + source.Intn(5)
		for range 200 {
			if source.Intn(10) < lean {
				o := anyOffer(source)
				next, is := impl.Offered(pool, o)
				want, can := offeredByRule(pool, o)
				if is != can || is != (len(there) < 50) || !slices.Equal(next, want) {
					t.Fatalf("%v with %v: %v and %v", pool, o, next, is)
				}
				if !is {
					full++
					continue
				}
				pool, there = next, append(there, o)
				continue
			}
			slices.SortFunc(there, offerOrder)
			o, rest, is := impl.Next(pool)
			if is != (len(there) > 0) {
				t.Fatalf("%v: %v and %v", pool, o, is)
			}
			if !is {
				refused++
				continue
			}
			if o != there[0] || !impl.PoolOk(rest) || len(rest) != len(pool)-1 {
				t.Fatalf("%v: %v and %v, not %v", pool, o, rest, there[0])
			}
			pool, there = rest, there[1:]
			told++
		}
	}
	if told < 5000 || refused < 100 || full < 100 {
		t.Fatal(told, refused, full)
	}
}

// poolArguments are those of all functions of the chapter.
type poolArguments struct {
	List  []impl.Offer
	Offer impl.Offer
	N     int64
}

func (x poolArguments) roomy() poolArguments {
	x.List = roomy(x.List, append(falling(3), impl.Offer{Fee: -1}, impl.Offer{Text: sized(61)})...)
	return x
}

func (x poolArguments) tight() poolArguments {
	x.List = slices.Clip(slices.Clone(x.List))
	return x
}

func poolAnswers() map[string]func(poolArguments) any {
	type answer struct {
		Offer impl.Offer
		List  []impl.Offer
		Is    bool
	}
	return map[string]func(poolArguments) any{
		"PoolOk": func(x poolArguments) any { return impl.PoolOk(x.List) },
		"Offered": func(x poolArguments) any {
			list, is := impl.Offered(x.List, x.Offer)
			return answer{List: list, Is: is}
		},
		"Next": func(x poolArguments) any {
			o, list, is := impl.Next(x.List)
			return answer{o, list, is}
		},
		"Chosen": func(x poolArguments) any { return impl.Chosen(x.List, x.N) },
	}
}

// poolCases goes through the functions and arguments of all kinds.
func poolCases(with func(name string, x poolArguments, answer func(poolArguments) any)) {
	for name, list := range somePools() {
		for i, x := range []poolArguments{
			{},
			{Offer: offer("0z"), N: 1},
			{Offer: impl.Offer{Fee: mostMoney}, N: 50},
			{Offer: offer("5b"), N: -1},
			{Offer: impl.Offer{Fee: -1}, N: math.MaxInt64},
			{Offer: impl.Offer{Text: sized(61)}, N: math.MinInt64},
		} {
			x.List = list
			for what, answer := range poolAnswers() {
				with(fmt.Sprint(name, ", ", i, ": ", what), x, answer)
			}
		}
	}
}

func TestPoolsLeaveTheirArguments(t *testing.T) {
	poolCases(func(name string, x poolArguments, answer func(poolArguments) any) {
		wantLeft(t, name, x, answer)
	})
}

func TestPoolsGiveNewMemory(t *testing.T) {
	poolCases(func(name string, x poolArguments, answer func(poolArguments) any) {
		wantNewMemory(t, name, x, answer)
	})
}

// What is written into an answer is in none of the arguments, nor in an answer that comes later.
func TestPoolsApartFromTheirAnswers(t *testing.T) {
	spoilt := impl.Offer{Fee: -7, Text: "spoilt"}
	for name, list := range somePools() {
		given := roomy(list, falling(5)...)
		before := slices.Clone(list)
		for _, o := range []impl.Offer{{}, {Fee: mostMoney}, offer("5b"), {Fee: -1}} {
			got, _ := impl.Offered(given, o)
			spoil(got, spoilt)
			want, can := offeredByRule(before, o)
			if again, is := impl.Offered(given, o); is != can || !slices.Equal(again, want) {
				t.Errorf("%s with %v: %v and %v", name, o, again, is)
			}
		}
		_, rest, _ := impl.Next(given)
		spoil(rest, spoilt)
		want, left, can := nextOfferByRule(before)
		if o, again, is := impl.Next(given); is != can || o != want || !slices.Equal(again, left) {
			t.Errorf("%s: %v, %v and %v", name, o, again, is)
		}
		spoil(impl.Chosen(given, 50), "spoilt")
		if got := impl.Chosen(given, 50); !slices.Equal(got, chosenByRule(before, 50)) {
			t.Errorf("%s: %q", name, got)
		}
		if !slices.Equal(given, before) || !slices.Equal(given[:len(list)+5][len(list):], falling(5)) {
			t.Errorf("%s: an answer is the argument's memory", name)
		}
	}
}
