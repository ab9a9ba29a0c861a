package tests

import (
	"fmt"
	"math"
	"math/big"
	"math/rand"
	"slices"
	"sync"
	"testing"

	"loop.example/g00217/impl"
)

const mostMoney = 1000000000

// twinA and twinB have one number at each place: they have as many digits, and these come to the same.
const twinA, twinB = 102598060, 374061196

// leafs are of places and Values in turn.
func leafs(numbers ...int64) []impl.Leaf {
	list := []impl.Leaf{}
	for i := 0; i < len(numbers); i += 2 {
		list = append(list, impl.Leaf{At: numbers[i], Value: numbers[i+1]})
	}
	return list
}

// noughtLeaves have the number 0, as a place without a Leaf has; worked out apart from the program.
func noughtLeaves() []impl.Leaf {
	return leafs(1, 319085939, 4, 151429369, 31, 18163936, 127, 606520270, 142, 3550977, 194, 994769879, 200, 687688833, 254, 214786302)
}

// leafsFrom has one at each place from one on to below another, as value tells.
func leafsFrom(from int64, to int64, value func(int64) int64) []impl.Leaf {
	list := []impl.Leaf{}
	for at := from; at < to; at++ {
		list = append(list, impl.Leaf{At: at, Value: value(at)})
	}
	return list
}

func itself(at int64) int64 { return at }

func always(value int64) func(int64) int64 {
	return func(int64) int64 { return value }
}

// goneOn is the document's rule of digests, from any number on.
func goneOn(h int64, text string) int64 {
	for i := range len(text) {
		h = (h*1000003 + int64(text[i]) + 1) % 2147483647
	}
	return h
}

func pairByRule(a int64, b int64) int64 {
	return goneOn(1, decimal(a)+","+decimal(b))
}

func leavesByRule(list []impl.Leaf) bool {
	if len(list) > 256 {
		return false
	}
	for i, x := range list {
		if x.At < 0 || x.At > 255 || x.Value < 0 || x.Value > mostMoney {
			return false
		}
		for _, y := range list[i+1:] {
			if y.At <= x.At {
				return false
			}
		}
	}
	return true
}

// valuesOf has what each place has: -1 where there is no Leaf.
func valuesOf(list []impl.Leaf) [256]int64 {
	values := [256]int64{}
	for at := range values {
		values[at] = -1
	}
	for _, x := range list {
		values[x.At] = x.Value
	}
	return values
}

func leavesWith(values [256]int64) []impl.Leaf {
	list := []impl.Leaf{}
	for at, value := range values {
		if value != -1 {
			list = append(list, impl.Leaf{At: int64(at), Value: value})
		}
	}
	return list
}

func setByRule(list []impl.Leaf, at int64, value int64) []impl.Leaf {
	if !leavesByRule(list) || at < 0 || at > 255 || value < -1 || value > mostMoney {
		return nil
	}
	values := valuesOf(list)
	values[at] = value
	return leavesWith(values)
}

// numbersByRule has the numbers of all 256 places, of all 128 groups of two, and so on up to that of all.
func numbersByRule(list []impl.Leaf) [9][]int64 {
	numbers := [9][]int64{make([]int64, 256)}
	for _, x := range list {
		numbers[0][x.At] = pairByRule(x.At, x.Value)
	}
	for step := 1; step <= 8; step++ {
		for two := range slices.Chunk(numbers[step-1], 2) {
			numbers[step] = append(numbers[step], pairByRule(two[0], two[1]))
		}
	}
	return numbers
}

func peakByRule(list []impl.Leaf) int64 {
	if !leavesByRule(list) {
		return -1
	}
	return numbersByRule(list)[8][0]
}

func wayByRule(list []impl.Leaf, at int64) []int64 {
	if !leavesByRule(list) || at < 0 || at > 255 {
		return nil
	}
	return wayIn(numbersByRule(list), at)
}

func wayIn(numbers [9][]int64, at int64) []int64 {
	way := []int64{}
	for step := range 8 {
		if at%2 == 0 {
			way = append(way, numbers[step][at+1])
		} else {
			way = append(way, numbers[step][at-1])
		}
		at /= 2
	}
	return way
}

// upFrom has the numbers from a place up, and for each the two of which it is. It refuses nothing.
func upFrom(at int64, value int64, way []int64) ([]int64, [][2]int64) {
	numbers, parts := []int64{0}, [][2]int64{{0, -1}}
	if value != -1 {
		numbers[0], parts[0] = pairByRule(at, value), [2]int64{at, value}
	}
	for step, beside := range way {
		two := [2]int64{numbers[step], beside}
		if isRight(at, step) {
			two = [2]int64{beside, numbers[step]}
		}
		numbers, parts = append(numbers, pairByRule(two[0], two[1])), append(parts, two)
	}
	return numbers, parts
}

func isRight(at int64, step int) bool {
	return at>>step&1 == 1
}

func toldByRule(at int64, value int64, way []int64) bool {
	return at >= 0 && at <= 255 && value >= -1 && value <= mostMoney && len(way) == 8
}

func holdsByRule(peak int64, at int64, value int64, way []int64) bool {
	if !toldByRule(at, value, way) {
		return false
	}
	numbers, _ := upFrom(at, value, way)
	return numbers[8] == peak
}

func partedByRule(at int64, value int64, way []int64, other int64, with []int64) ([]int64, bool) {
	if !toldByRule(at, value, way) || !toldByRule(at, other, with) || value == other {
		return nil, false
	}
	one, ones := upFrom(at, value, way)
	two, twos := upFrom(at, other, with)
	for step := range 9 {
		if one[step] == two[step] && one[8] == two[8] {
			return []int64{ones[step][0], ones[step][1], twos[step][0], twos[step][1]}, true
		}
	}
	return nil, false
}

// tails has five digits by what they come to from 0 on.
var tails = sync.OnceValue(func() map[int64]int64 {
	found := map[int64]int64{}
	for n := range int64(100000) {
		found[goneOn(0, fmt.Sprintf("%05d", n))] = n
	}
	return found
})

// power is a number times itself so often, as digests count.
func power(n int64, times int) int64 {
	out := int64(1)
	for range times {
		out = out * n % 2147483647
	}
	return out
}

// numberTo finds a number with which a digest goes on from start to want.
func numberTo(start int64, want int64) int64 {
	known, far := tails(), power(1000003, 5)
	for head := int64(1); ; head++ {
		rest := (want - goneOn(start, decimal(head))*far%2147483647 + 2147483647) % 2147483647
		if tail, is := known[rest]; is {
			return head*100000 + tail
		}
	}
}

// besideTo finds what has to be beside a number, so that the number of both is want.
func besideTo(number int64, right bool, want int64) int64 {
	if !right {
		return numberTo(goneOn(1, decimal(number)+","), want)
	}
	// What is behind the number that is looked for is taken back from want.
	behind := "," + decimal(number)
	inverse := new(big.Int).ModInverse(big.NewInt(1000003), big.NewInt(2147483647)).Int64()
	ahead := (want - goneOn(0, behind) + 2147483647) % 2147483647
	return numberTo(1, ahead*power(inverse, len(behind))%2147483647)
}

// meeting has the way with one number changed, that below the step (1 to 8): so that other, which leads with it to another number than value ahead of that, comes there to the same as value with way.
func meeting(at int64, value int64, way []int64, other int64, with []int64, step int) []int64 {
	numbers, _ := upFrom(at, value, way)
	own, _ := upFrom(at, other, with)
	with = slices.Clone(with)
	with[step-1] = besideTo(own[step-1], isRight(at, step-1), numbers[step])
	return with
}

func rightLeaves() map[string][]impl.Leaf {
	some := leafs(0, 0, 1, 1000, 2, mostMoney, 5, 7, 6, 7, 64, 1, 100, 12345, 127, 1, 128, 1, 200, 99, 254, 3, 255, mostMoney)
	return map[string][]impl.Leaf{
		"nil":                        nil,
		"none":                       {},
		"0 at 0":                     leafs(0, 0),
		"1 at 0":                     leafs(0, 1),
		"most at 0":                  leafs(0, mostMoney),
		"one at 1":                   leafs(1, 0),
		"one at 127":                 leafs(127, 5),
		"one at 128":                 leafs(128, 5),
		"0 at 255":                   leafs(255, 0),
		"most at 255":                leafs(255, mostMoney),
		"the ends":                   leafs(0, 1, 255, 2),
		"two beside one another":     leafs(0, 1, 1, 2),
		"two that are apart by one":  leafs(127, 1, 128, 2),
		"two with one Value":         leafs(9, 4, 77, 4),
		"Values that fall":           leafs(3, 50, 7, 20),
		"3 and 7":                    leafs(3, 20, 7, 50),
		"eight accounts":             leafsFrom(0, 8, always(1000)),
		"the last eight":             leafsFrom(248, 256, always(1000)),
		"the first half":             leafsFrom(0, 128, itself),
		"the second half":            leafsFrom(128, 256, itself),
		"all but the first":          leafsFrom(1, 256, itself),
		"all but the last":           leafsFrom(0, 255, itself),
		"all but 100":                slices.Concat(leafsFrom(0, 100, itself), leafsFrom(101, 256, itself)),
		"all, with their places":     leafsFrom(0, 256, itself),
		"all, with 0":                leafsFrom(0, 256, always(0)),
		"all, with the most":         leafsFrom(0, 256, always(mostMoney)),
		"all even places":            slices.DeleteFunc(leafsFrom(0, 256, itself), func(x impl.Leaf) bool { return x.At%2 == 1 }),
		"all odd places":             slices.DeleteFunc(leafsFrom(0, 256, itself), func(x impl.Leaf) bool { return x.At%2 == 0 }),
		"some":                       some,
		"with the number 0":          noughtLeaves(),
		"with one number, the one":   leafs(7, twinA, 9, 1),
		"with one number, the other": leafs(7, twinB, 9, 1),
	}
}

// wrongLeaves fail in one way each, but for the last ones.
func wrongLeaves() map[string][]impl.Leaf {
	all := leafsFrom(0, 256, itself)
	wrong := map[string][]impl.Leaf{
		"257, the last one at 256":      leafsFrom(0, 257, itself),
		"257, the first one at -1":      leafsFrom(-1, 256, always(5)),
		"257, the last one twice":       slices.Concat(all, leafs(255, 255)),
		"257, the first one twice":      slices.Concat(leafs(0, 0), all),
		"257, the first one behind":     slices.Concat(all, leafs(0, 0)),
		"two with one At":               leafs(4, 1, 4, 2),
		"alike ones":                    leafs(4, 1, 4, 1),
		"two with one At at 0":          leafs(0, 1, 0, 2),
		"two with one At at 255":        leafs(255, 1, 255, 2),
		"two with one At at the end":    leafs(1, 1, 4, 1, 255, 1, 255, 1),
		"two with one At in front":      leafs(1, 1, 1, 1, 255, 1),
		"two that fall":                 leafs(5, 1, 4, 1),
		"two that fall at the end":      leafs(1, 1, 255, 1, 254, 1),
		"two that fall in front":        leafs(1, 1, 0, 1, 254, 1),
		"the ends, the other way":       leafs(255, 1, 0, 1),
		"one At twice, another between": leafs(4, 1, 6, 1, 4, 1),
		"many alike":                    slices.Repeat(leafs(7, 7), 1000),
		"all, twice":                    slices.Concat(all, all),
		"all of it":                     slices.Repeat(leafs(256, -1, -1, mostMoney+1), 200),
	}
	for _, at := range []int64{math.MinInt64, math.MinInt64 + 1, -1 << 32, -256, -2, -1, 256, 257, 511, 512, 1 << 32, 1<<32 + 1, math.MaxInt64 - 1, math.MaxInt64} {
		wrong[fmt.Sprint("one at ", at)] = leafs(at, 5)
		if at < 0 {
			wrong[fmt.Sprint("the first one at ", at)] = leafs(at, 5, 0, 1, 255, 1)
		} else {
			wrong[fmt.Sprint("the last one at ", at)] = leafs(0, 1, 255, 1, at, 5)
		}
	}
	for _, value := range []int64{math.MinInt64, math.MinInt64 + 1, -1 << 32, -mostMoney, -2, -1, mostMoney + 1, 2 * mostMoney, 1 << 32, 1<<32 + 1, math.MaxInt64 - 1, math.MaxInt64} {
		wrong[fmt.Sprint("one of ", value)] = leafs(3, value)
		wrong[fmt.Sprint("the first one of ", value)] = leafs(0, value, 1, 1, 255, 1)
		wrong[fmt.Sprint("the middle one of ", value)] = leafs(0, 1, 1, value, 255, 1)
		wrong[fmt.Sprint("the last one of ", value)] = leafs(0, 1, 1, 1, 255, value)
		wrong[fmt.Sprint("of all one of ", value)] = slices.Concat(all[:99], leafs(99, value), all[100:])
	}
	return wrong
}

var noPlaces = []int64{math.MinInt64, math.MinInt64 + 1, -1 << 32, -256, -255, -2, -1, 256, 257, 511, 512, 1 << 32, 1<<32 + 1, 1<<32 + 255, math.MaxInt64 - 1, math.MaxInt64}

var noValues = []int64{math.MinInt64, math.MinInt64 + 1, -1 << 32, -mostMoney, -3, -2, mostMoney + 1, mostMoney + 2, 1 << 32, 1<<32 + 1, 1<<32 - 1, math.MaxInt64 - 1, math.MaxInt64}

// anyLeaves are of some places, with Values of all sizes.
func anyLeaves(source *rand.Rand) []impl.Leaf {
	values, often := valuesOf(nil), 1+source.Intn(100)
	for at := range values {
		if source.Intn(often) == 0 {
			values[at] = anyMoney(source)
		}
	}
	return leavesWith(values)
}

func anyMoney(source *rand.Rand) int64 {
	switch source.Intn(8) {
	case 0:
		return 0
	case 1:
		return mostMoney
	case 2:
		return source.Int63n(10)
	}
	return source.Int63n(mostMoney + 1)
}

// anyWay has eight numbers of all kinds, none of them of a trie.
func anyWay(source *rand.Rand) []int64 {
	way := []int64{}
	for range 8 {
		switch source.Intn(5) {
		case 0:
			way = append(way, int64(source.Uint64()))
		case 1:
			way = append(way, []int64{math.MinInt64, -1, 0, 1, math.MaxInt64}[source.Intn(5)])
		default:
			way = append(way, source.Int63n(2147483647))
		}
	}
	return way
}

func TestConstantsOfTries(t *testing.T) {
	if impl.MaxMoney != mostMoney {
		t.Fatal(impl.MaxMoney)
	}
}

// The tests' own means: what they take for a digest is one, and what they look for is found.
func TestHowTriesAreTested(t *testing.T) {
	for _, text := range anyTexts(30, 100) {
		if goneOn(1, text) != bigDigest(text) {
			t.Fatalf("%q", text)
		}
	}
	for _, c := range pairForms {
		if pairByRule(c.a, c.b) != c.digest {
			t.Fatal(c)
		}
	}
	for at := range int64(256) {
		if pairByRule(at, twinA) != pairByRule(at, twinB) {
			t.Fatal(at)
		}
	}
	for _, x := range noughtLeaves() {
		if bigDigest(fmt.Sprint(x.At, ",", x.Value)) != 0 || pairByRule(x.At, x.Value) != 0 {
			t.Fatal(x)
		}
	}
	for _, number := range []int64{0, 1, 106705140, 2147483646, -1} {
		for _, want := range []int64{0, 1, 774129260, 2147483646} {
			if left := besideTo(number, true, want); pairByRule(left, number) != want {
				t.Fatal(left, number, want)
			}
			if right := besideTo(number, false, want); pairByRule(number, right) != want {
				t.Fatal(number, right, want)
			}
		}
	}
}

func TestLeavesOkOfRightLists(t *testing.T) {
	for name, list := range rightLeaves() {
		if !impl.LeavesOk(list) || !leavesByRule(list) {
			t.Error(name)
		}
	}
	for at := range int64(256) {
		for _, value := range []int64{0, 1, mostMoney - 1, mostMoney} {
			if !impl.LeavesOk(leafs(at, value)) {
				t.Error(at, value)
			}
		}
	}
}

func TestLeavesOkOfWrongLists(t *testing.T) {
	for name, list := range wrongLeaves() {
		if impl.LeavesOk(list) || leavesByRule(list) {
			t.Error(name)
		}
	}
}

// What lies behind a list is none of it, right or wrong.
func TestLeavesKeepOutOfTheSpareRoom(t *testing.T) {
	list := leafs(0, 1, 5, 2, 9, 3, 9, -1, 300, mostMoney+1)
	if !impl.LeavesOk(list[:3]) || impl.Peak(list[:3]) != peakByRule(leafs(0, 1, 5, 2, 9, 3)) || impl.Peak(list[:0]) != peakByRule(nil) {
		t.Error("what is wrong in the room is asked for")
	}
	right := leafs(0, 1, 5, 2, 9, 3)
	if got := impl.Peak(right[:2]); got != peakByRule(leafs(0, 1, 5, 2)) {
		t.Error("a Leaf in the room counts", got)
	}
	if got := impl.Way(right[:1], 4); !slices.Equal(got, wayByRule(leafs(0, 1), 4)) {
		t.Error("a Leaf in the room is beside", got)
	}
	if got := impl.Set(right[:2], 1, 7); !slices.Equal(got, leafs(0, 1, 1, 7, 5, 2)) || !slices.Equal(right, leafs(0, 1, 5, 2, 9, 3)) {
		t.Error("the room is taken", got, right)
	}
}

func TestWrongLeavesAreAnsweredByNothing(t *testing.T) {
	places := slices.Concat([]int64{0, 1, 3, 99, 128, 254, 255}, noPlaces)
	for name, list := range wrongLeaves() {
		if got := impl.Peak(list); got != -1 {
			t.Errorf("%s: Peak: %d", name, got)
		}
		for _, at := range places {
			if got := impl.Way(list, at); len(got) != 0 {
				t.Errorf("%s: Way of %d: %v", name, at, got)
			}
			for _, value := range []int64{-2, -1, 0, 5, mostMoney, mostMoney + 1} {
				if got := impl.Set(list, at, value); len(got) != 0 {
					t.Errorf("%s: Set at %d of %d: %v", name, at, value, got)
				}
			}
		}
	}
}

// checkLeaves asks each function that takes Leafs for what the rule tells of a list.
func checkLeaves(t *testing.T, name string, list []impl.Leaf, places []int64, values []int64) {
	t.Helper()
	is := leavesByRule(list)
	if got := impl.LeavesOk(list); got != is {
		t.Fatalf("%s: LeavesOk: %v", name, got)
	}
	if got := impl.Peak(list); got != peakByRule(list) {
		t.Fatalf("%s: Peak: %d", name, got)
	}
	for _, at := range places {
		if got := impl.Way(list, at); !slices.Equal(got, wayByRule(list, at)) {
			t.Fatalf("%s: Way of %d: %v", name, at, got)
		}
		for _, value := range values {
			got := impl.Set(list, at, value)
			if !slices.Equal(got, setByRule(list, at, value)) || is && !impl.LeavesOk(got) {
				t.Fatalf("%s: Set at %d of %d: %v", name, at, value, got)
			}
		}
	}
}

func TestLeavesByRule(t *testing.T) {
	places := slices.Concat([]int64{0, 1, 2, 3, 4, 5, 6, 7, 8, 63, 64, 99, 100, 101, 126, 127, 128, 129, 191, 192, 200, 247, 248, 253, 254, 255}, noPlaces)
	values := slices.Concat([]int64{-1, 0, 1, 5, mostMoney - 1, mostMoney}, noValues)
	for name, list := range rightLeaves() {
		checkLeaves(t, name, list, places, values)
	}
	for name, list := range wrongLeaves() {
		checkLeaves(t, name, list, places, values)
	}
}

// All lists of up to three Leafs over few places and Values, right and wrong.
func TestAllShortLeaves(t *testing.T) {
	over := []impl.Leaf{}
	for _, at := range []int64{-1, 0, 1, 128, 255, 256} {
		for _, value := range []int64{-1, 0, mostMoney, mostMoney + 1} {
			over = append(over, impl.Leaf{At: at, Value: value})
		}
	}
	lists, right := [][]impl.Leaf{{}}, 0
	for size := range 4 {
		next := [][]impl.Leaf{}
		for _, list := range lists {
			checkLeaves(t, fmt.Sprint(list), list, []int64{0, 255}, []int64{-1, 3})
			if leavesByRule(list) {
				right++
			}
			for _, x := range over {
				next = append(next, append(slices.Clone(list), x))
			}
		}
		if size < 3 {
			lists = next
		}
	}
	// None, one of 8, two and three of four places with two Values each.
	if right != 1+8+6*4+4*8 {
		t.Fatal(right)
	}
}

func TestSetOfForms(t *testing.T) {
	three := leafs(2, 20, 5, 50, 9, 90)
	for name, c := range map[string]struct {
		list      []impl.Leaf
		at, value int64
		want      []impl.Leaf
	}{
		"into none":                          {nil, 7, 50, leafs(7, 50)},
		"into none, at 0":                    {nil, 0, 0, leafs(0, 0)},
		"into none, at 255":                  {nil, 255, mostMoney, leafs(255, mostMoney)},
		"at the front":                       {three, 0, 1, leafs(0, 1, 2, 20, 5, 50, 9, 90)},
		"just ahead of the first":            {three, 1, 1, leafs(1, 1, 2, 20, 5, 50, 9, 90)},
		"just behind the first":              {three, 3, 1, leafs(2, 20, 3, 1, 5, 50, 9, 90)},
		"in the middle":                      {three, 7, 1, leafs(2, 20, 5, 50, 7, 1, 9, 90)},
		"just ahead of the last":             {three, 8, 1, leafs(2, 20, 5, 50, 8, 1, 9, 90)},
		"just behind the last":               {three, 10, 1, leafs(2, 20, 5, 50, 9, 90, 10, 1)},
		"at the end":                         {three, 255, 1, leafs(2, 20, 5, 50, 9, 90, 255, 1)},
		"the first, anew":                    {three, 2, 1, leafs(2, 1, 5, 50, 9, 90)},
		"the middle one, anew":               {three, 5, 1, leafs(2, 20, 5, 1, 9, 90)},
		"the last, anew":                     {three, 9, 1, leafs(2, 20, 5, 50, 9, 1)},
		"the middle one, as it is":           {three, 5, 50, three},
		"the middle one, 0":                  {three, 5, 0, leafs(2, 20, 5, 0, 9, 90)},
		"the middle one, the most":           {three, 5, mostMoney, leafs(2, 20, 5, mostMoney, 9, 90)},
		"the middle one, past the most":      {three, 5, mostMoney + 1, nil},
		"the middle one, -2":                 {three, 5, -2, nil},
		"without the first":                  {three, 2, -1, leafs(5, 50, 9, 90)},
		"without the middle one":             {three, 5, -1, leafs(2, 20, 9, 90)},
		"without the last":                   {three, 9, -1, leafs(2, 20, 5, 50)},
		"without the only one":               {leafs(7, 50), 7, -1, nil},
		"without one at 0":                   {leafs(0, 50, 1, 2), 0, -1, leafs(1, 2)},
		"without one at 255":                 {leafs(0, 50, 255, 2), 255, -1, leafs(0, 50)},
		"without one that is not in none":    {nil, 7, -1, nil},
		"without one that is not in front":   {three, 0, -1, three},
		"without one that is not between":    {three, 6, -1, three},
		"without one that is not behind":     {three, 255, -1, three},
		"at -1":                              {three, -1, 1, nil},
		"at 256":                             {three, 256, 1, nil},
		"at -1, without":                     {three, -1, -1, nil},
		"at 256, without":                    {three, 256, -1, nil},
		"at the least number":                {three, math.MinInt64, 1, nil},
		"at the greatest number":             {three, math.MaxInt64, 1, nil},
		"at a number whose int8 is 5":        {three, 261, -1, nil},
		"at a number whose int32 is 5":       {three, 1<<32 + 5, -1, nil},
		"with a Value whose int32 is -1":     {three, 5, 1<<32 - 1, nil},
		"with the least Value":               {three, 5, math.MinInt64, nil},
		"with the greatest Value":            {three, 5, math.MaxInt64, nil},
		"of a wrong list":                    {leafs(5, 1, 2, 1), 7, 1, nil},
		"of a list that it would make right": {leafs(2, -1), 2, 5, nil},
		"of a list right without it":         {leafs(2, 1, 300, 1), 300, -1, nil},
		"of all, anew":                       {leafsFrom(0, 256, itself), 100, 7, slices.Concat(leafsFrom(0, 100, itself), leafs(100, 7), leafsFrom(101, 256, itself))},
		"of all, without the first":          {leafsFrom(0, 256, itself), 0, -1, leafsFrom(1, 256, itself)},
		"of all, without the last":           {leafsFrom(0, 256, itself), 255, -1, leafsFrom(0, 255, itself)},
		"the last one that is missing":       {leafsFrom(0, 255, itself), 255, 255, leafsFrom(0, 256, itself)},
	} {
		if got := impl.Set(c.list, c.at, c.value); !slices.Equal(got, c.want) {
			t.Errorf("%s: %v", name, got)
		}
	}
}

func TestSetOfEachPlace(t *testing.T) {
	for name, list := range rightLeaves() {
		for at := range int64(256) {
			for _, value := range []int64{-1, 0, 77, mostMoney} {
				got := impl.Set(list, at, value)
				if !slices.Equal(got, setByRule(list, at, value)) || !impl.LeavesOk(got) {
					t.Fatalf("%s: at %d of %d: %v", name, at, value, got)
				}
			}
			for _, value := range noValues {
				if got := impl.Set(list, at, value); len(got) != 0 {
					t.Fatalf("%s: at %d of %d: %v", name, at, value, got)
				}
			}
		}
		for _, at := range noPlaces {
			for _, value := range []int64{-1, 0, 77, mostMoney} {
				if got := impl.Set(list, at, value); len(got) != 0 {
					t.Fatalf("%s: at %d of %d: %v", name, at, value, got)
				}
			}
		}
	}
}

// Whatever was set and taken out before, and in whichever order: what each place has now makes the list, and so the Peak.
func TestSetByAnyScript(t *testing.T) {
	source := rand.New(rand.NewSource(31))
	for range 30 {
		list, values, reach := []impl.Leaf(nil), valuesOf(nil), 1+source.Int63n(256)
		for range 400 {
			at, value := source.Int63n(reach), anyMoney(source)
			if source.Intn(3) == 0 {
				value = -1
			}
			list = impl.Set(list, at, value)
			values[at] = value
			if !slices.Equal(list, leavesWith(values)) || !impl.LeavesOk(list) {
				t.Fatal(list)
			}
		}
		anew := []impl.Leaf(nil)
		for _, at := range source.Perm(256) {
			anew = impl.Set(anew, int64(at), values[at])
		}
		if !slices.Equal(anew, list) || impl.Peak(anew) != impl.Peak(list) || impl.Peak(list) != peakByRule(list) {
			t.Fatal(list)
		}
	}
}

// Peaks that were worked out apart from the program.
func TestPeakOfForms(t *testing.T) {
	lists := rightLeaves()
	for name, want := range map[string]int64{
		"nil":                       774129260,
		"none":                      774129260,
		"0 at 0":                    533711613,
		"1 at 0":                    1514604583,
		"most at 0":                 29403177,
		"one at 1":                  1787737540,
		"one at 127":                617920368,
		"one at 128":                2025401199,
		"0 at 255":                  2026476511,
		"most at 255":               1292813640,
		"the ends":                  164286752,
		"two beside one another":    831966278,
		"two that are apart by one": 1158394533,
		"3 and 7":                   2139805336,
		"eight accounts":            1847018712,
		"all but 100":               1270700217,
		"all, with their places":    169350696,
		"all, with 0":               1481915573,
		"all, with the most":        1616689914,
		// Nobody can tell them from empty places by their numbers.
		"with the number 0": 774129260,
	} {
		list, is := lists[name]
		if got := impl.Peak(list); !is || got != want {
			t.Errorf("%s: %d", name, got)
		}
	}
}

func TestPeakOfOneAtEachPlace(t *testing.T) {
	known := map[int64]int64{}
	for at := range int64(256) {
		for _, value := range []int64{0, 1, at, mostMoney} {
			if got := impl.Peak(leafs(at, value)); got != peakByRule(leafs(at, value)) {
				t.Fatal(at, value, got)
			}
		}
		known[impl.Peak(leafs(at, 12345))] = at
	}
	if len(known) != 256 {
		t.Fatal("places are alike", len(known))
	}
}

// Of all 256, and of fewer and fewer of them, so that groups of each size are empty.
func TestPeakOfFewerAndFewer(t *testing.T) {
	source := rand.New(rand.NewSource(32))
	for _, value := range []func(int64) int64{itself, always(0), always(mostMoney)} {
		front, back, anywhere := leafsFrom(0, 256, value), leafsFrom(0, 256, value), leafsFrom(0, 256, value)
		for size := 256; size >= 0; size-- {
			for _, list := range [][]impl.Leaf{front, back, anywhere} {
				if got := impl.Peak(list); len(list) != size || got != peakByRule(list) {
					t.Fatal(size, got)
				}
			}
			if size > 0 {
				i := source.Intn(size)
				front, back, anywhere = front[1:], back[:size-1], slices.Delete(anywhere, i, i+1)
			}
		}
	}
}

func TestPeakOfAnyLeaves(t *testing.T) {
	source := rand.New(rand.NewSource(33))
	for range 400 {
		if list := anyLeaves(source); impl.Peak(list) != peakByRule(list) {
			t.Fatal(list)
		}
	}
}

func TestPeakStaysWhereAValueIsTakenOutAgain(t *testing.T) {
	for name, list := range rightLeaves() {
		peak, values := impl.Peak(list), valuesOf(list)
		for at := range int64(256) {
			for _, value := range []int64{0, 4321, mostMoney} {
				with := impl.Set(list, at, value)
				again := impl.Set(with, at, values[at])
				if impl.Peak(again) != peak || !slices.Equal(again, list) {
					t.Fatalf("%s: at %d of %d: %v", name, at, value, again)
				}
				if impl.Peak(with) == peak && value != values[at] {
					t.Fatalf("%s: at %d of %d: the Peak has not changed", name, at, value)
				}
			}
		}
	}
}

// Ways that were worked out apart from the program.
func TestWayOfForms(t *testing.T) {
	lists := rightLeaves()
	for name, ways := range map[string]map[int64][]int64{
		"none": {
			0:   {0, 106705140, 2137582120, 698154064, 1634209042, 865992927, 1341588009, 893562960},
			7:   {0, 106705140, 2137582120, 698154064, 1634209042, 865992927, 1341588009, 893562960},
			255: {0, 106705140, 2137582120, 698154064, 1634209042, 865992927, 1341588009, 893562960},
		},
		"1 at 0": {
			0:   {0, 106705140, 2137582120, 698154064, 1634209042, 865992927, 1341588009, 893562960},
			3:   {0, 1213475285, 2137582120, 698154064, 1634209042, 865992927, 1341588009, 893562960},
			7:   {0, 106705140, 545946121, 698154064, 1634209042, 865992927, 1341588009, 893562960},
			128: {0, 106705140, 2137582120, 698154064, 1634209042, 865992927, 1341588009, 1546021073},
		},
		"3 and 7": {
			0:   {0, 376798944, 1042941973, 698154064, 1634209042, 865992927, 1341588009, 893562960},
			3:   {0, 106705140, 1042941973, 698154064, 1634209042, 865992927, 1341588009, 893562960},
			7:   {0, 106705140, 266971769, 698154064, 1634209042, 865992927, 1341588009, 893562960},
			255: {0, 106705140, 2137582120, 698154064, 1634209042, 865992927, 1341588009, 1255267992},
		},
		"eight accounts": {
			0: {139744571, 376925215, 1320849179, 698154064, 1634209042, 865992927, 1341588009, 893562960},
			3: {2093177797, 1767177782, 1320849179, 698154064, 1634209042, 865992927, 1341588009, 893562960},
			7: {1316976113, 1279286701, 1085507406, 698154064, 1634209042, 865992927, 1341588009, 893562960},
		},
		"all, with their places": {
			0:   {1532809295, 1826498725, 1025592953, 12594966, 2127876477, 1097636965, 21356959, 854888959},
			128: {2099027390, 1744786234, 2117993518, 1751348540, 1570262515, 9547195, 1801336343, 646423612},
			255: {1279755897, 646249325, 1667929015, 969301692, 617070070, 1614484349, 538694483, 646423612},
		},
	} {
		for at, want := range ways {
			if got := impl.Way(lists[name], at); !slices.Equal(got, want) {
				t.Errorf("%s: %d: %v", name, at, got)
			}
		}
	}
}

func TestWayOfEachPlace(t *testing.T) {
	for name, list := range rightLeaves() {
		numbers := numbersByRule(list)
		for at := range int64(256) {
			if got := impl.Way(list, at); len(got) != 8 || !slices.Equal(got, wayIn(numbers, at)) {
				t.Fatalf("%s: %d: %v", name, at, got)
			}
		}
		for _, at := range noPlaces {
			if got := impl.Way(list, at); len(got) != 0 {
				t.Fatalf("%s: %d: %v", name, at, got)
			}
		}
	}
}

// What a place itself has is not beside it.
func TestWayHangsOnTheOtherPlaces(t *testing.T) {
	for name, list := range rightLeaves() {
		for at := range int64(256) {
			way := impl.Way(list, at)
			for _, value := range []int64{-1, 0, 999, mostMoney} {
				if got := impl.Way(impl.Set(list, at, value), at); !slices.Equal(got, way) {
					t.Fatalf("%s: %d: %v", name, at, got)
				}
			}
		}
	}
}

// Promise 12: each place Holds with what it has.
func TestEachPlaceHolds(t *testing.T) {
	for name, list := range rightLeaves() {
		peak := impl.Peak(list)
		for at, value := range valuesOf(list) {
			if !impl.Holds(peak, int64(at), value, impl.Way(list, int64(at))) {
				t.Fatalf("%s: %d with %d", name, at, value)
			}
		}
	}
}

func TestEachPlaceOfAnyLeavesHolds(t *testing.T) {
	source := rand.New(rand.NewSource(34))
	there, none := 0, 0
	for range 60 {
		list := anyLeaves(source)
		peak := impl.Peak(list)
		for at, value := range valuesOf(list) {
			if !impl.Holds(peak, int64(at), value, impl.Way(list, int64(at))) {
				t.Fatal(list, at, value)
			}
			if value == -1 {
				none++
			} else {
				there++
			}
		}
	}
	if there < 500 || none < 500 {
		t.Fatal(there, none)
	}
}

// A Value that is not there does not hold, -1 where there is a Leaf among them: no two of these have one number.
func TestAnotherValueDoesNotHold(t *testing.T) {
	for name, list := range rightLeaves() {
		if name == "with the number 0" {
			continue
		}
		peak := impl.Peak(list)
		for at, value := range valuesOf(list) {
			way := impl.Way(list, int64(at))
			for _, other := range []int64{-1, 0, 1, value + 1, value - 1, 12345, mostMoney - 1, mostMoney} {
				if other != value && impl.Holds(peak, int64(at), other, way) {
					t.Fatalf("%s: %d with %d in the place of %d", name, at, other, value)
				}
			}
		}
	}
}

// Two Values with one number hold where the one is there; and a Leaf whose number is 0 where there is none, and the other way.
func TestValuesWithOneNumberHold(t *testing.T) {
	for name, list := range rightLeaves() {
		for _, at := range []int64{0, 1, 7, 100, 128, 255} {
			way := impl.Way(list, at)
			one, two := impl.Set(list, at, twinA), impl.Set(list, at, twinB)
			if impl.Peak(one) != impl.Peak(two) || !impl.Holds(impl.Peak(one), at, twinB, way) || !impl.Holds(impl.Peak(two), at, twinA, way) {
				t.Fatalf("%s: at %d", name, at)
			}
		}
		for _, x := range noughtLeaves() {
			way := impl.Way(list, x.At)
			with, without := impl.Set(list, x.At, x.Value), impl.Set(list, x.At, -1)
			if impl.Peak(with) != impl.Peak(without) || !impl.Holds(impl.Peak(with), x.At, -1, way) || !impl.Holds(impl.Peak(without), x.At, x.Value, way) {
				t.Fatalf("%s: %v", name, x)
			}
		}
	}
}

func TestHoldsOfForms(t *testing.T) {
	list := leafs(3, 20, 7, 50)
	const peak = 2139805336
	way := []int64{0, 106705140, 266971769, 698154064, 1634209042, 865992927, 1341588009, 893562960}
	if impl.Peak(list) != peak || !slices.Equal(impl.Way(list, 7), way) {
		t.Fatal(list)
	}
	swapped := slices.Clone(way)
	swapped[1], swapped[2] = way[2], way[1]
	backwards := slices.Clone(way)
	slices.Reverse(backwards)
	for name, c := range map[string]struct {
		peak, at, value int64
		way             []int64
		want            bool
	}{
		"as it is":                   {peak, 7, 50, way, true},
		"another Value":              {peak, 7, 51, way, false},
		"0":                          {peak, 7, 0, way, false},
		"without a Leaf":             {peak, 7, -1, way, false},
		"the Value of another place": {peak, 7, 20, way, false},
		"another place":              {peak, 3, 50, way, false},
		"the place beside":           {peak, 6, 50, way, false},
		"the first place":            {peak, 0, 50, way, false},
		"the last place":             {peak, 255, 50, way, false},
		"a place without, with it":   {peak, 4, 50, impl.Way(list, 4), false},
		"a place without":            {peak, 4, -1, impl.Way(list, 4), true},
		"a place without, with 0":    {peak, 4, 0, impl.Way(list, 4), false},
		"a way of another place":     {peak, 7, 50, impl.Way(list, 3), false},
		"another peak":               {peak + 1, 7, 50, way, false},
		"a peak of 0":                {0, 7, 50, way, false},
		"a peak of -1":               {-1, 7, 50, way, false},
		"the peak and its modulus":   {peak + 2147483647, 7, 50, way, false},
		"the peak and 2 to the 32":   {peak + 1<<32, 7, 50, way, false},
		"the peak of none":           {774129260, 7, 50, way, false},
		"two numbers swapped":        {peak, 7, 50, swapped, false},
		"the way backwards":          {peak, 7, 50, backwards, false},
		"a way of 7":                 {peak, 7, 50, way[:7], false},
		"a way of the last 7":        {peak, 7, 50, way[1:], false},
		"a way of 9":                 {peak, 7, 50, append(slices.Clone(way), 0), false},
		"a way of 9, one ahead":      {peak, 7, 50, append([]int64{0}, way...), false},
		"no way":                     {peak, 7, 50, nil, false},
		"no way, and its number":     {impl.Pair(7, 50), 7, 50, nil, false},
		"at -1":                      {peak, -1, 50, way, false},
		"at 256":                     {peak, 256, 50, way, false},
		"at 7 and 256":               {peak, 263, 50, way, false},
		"at 7 and 2 to the 32":       {peak, 1<<32 + 7, 50, way, false},
		"a Value of -2":              {peak, 7, -2, way, false},
		"a Value past the most":      {peak, 7, mostMoney + 1, way, false},
		"a Value whose int32 is 50":  {peak, 7, 1<<32 + 50, way, false},
		"none, and a Value of -2":    {774129260, 7, -2, impl.Way(nil, 7), false},
		"none, and a Value of -1":    {774129260, 7, -1, impl.Way(nil, 7), true},
		"none, and at 256":           {774129260, 256, -1, impl.Way(nil, 0), false},
		"none, and at -1":            {774129260, -1, -1, impl.Way(nil, 255), false},
		"none, and at 255":           {774129260, 255, -1, impl.Way(nil, 255), true},
		"none, and at 0":             {774129260, 0, -1, impl.Way(nil, 0), true},
		"refused, and a peak of 0":   {0, -1, 50, nil, false},
	} {
		if got := impl.Holds(c.peak, c.at, c.value, c.way); got != c.want {
			t.Errorf("%s: %v", name, got)
		}
	}
}

func TestHoldsOfAWayWithOneNumberChanged(t *testing.T) {
	for name, list := range rightLeaves() {
		peak, values := impl.Peak(list), valuesOf(list)
		for _, at := range []int64{0, 1, 6, 7, 100, 127, 128, 200, 254, 255} {
			way := impl.Way(list, at)
			for i := range 8 {
				for _, number := range []int64{way[i] + 1, way[i] - 1, -way[i] - 1, way[i] + 2147483647, math.MinInt64, math.MaxInt64} {
					other := slices.Clone(way)
					other[i] = number
					if impl.Holds(peak, at, values[at], other) {
						t.Fatalf("%s: %d: %v", name, at, other)
					}
				}
			}
		}
	}
}

// What is out of range is refused, though the numbers would come to the peak.
func TestHoldsRefusesWhatWouldLeadThere(t *testing.T) {
	source := rand.New(rand.NewSource(35))
	for range 20 {
		way := anyWay(source)
		for _, at := range slices.Concat([]int64{0, 1, 77, 255}, noPlaces) {
			for _, value := range slices.Concat([]int64{-1, 0, 5, mostMoney}, noValues) {
				numbers, _ := upFrom(at, value, way)
				want := toldByRule(at, value, way)
				if got := impl.Holds(numbers[8], at, value, way); got != want {
					t.Fatal(at, value, way, got)
				}
				for _, peak := range []int64{-1, 0, 1, numbers[8] + 1, numbers[7]} {
					if peak != numbers[8] && impl.Holds(peak, at, value, way) {
						t.Fatal(peak, at, value, way)
					}
				}
			}
		}
		for size := range 8 {
			numbers, _ := upFrom(9, 5, way[:size])
			if impl.Holds(numbers[size], 9, 5, way[:size]) {
				t.Fatal(size, way)
			}
		}
		for _, more := range [][]int64{{0}, {1, 2}, make([]int64, 8), make([]int64, 300)} {
			long := slices.Concat(way, more)
			// The steps beyond the eighth go on from the place's further bits, all of them 0.
			numbers, _ := upFrom(9, 5, long)
			if impl.Holds(numbers[len(long)], 9, 5, long) || impl.Holds(numbers[8], 9, 5, long) {
				t.Fatal(long)
			}
		}
	}
}

// wayToNought leads a Value to a peak of 0.
func wayToNought(at int64, value int64) []int64 {
	way := wayByRule(nil, at)
	numbers, _ := upFrom(at, value, way)
	way[7] = besideTo(numbers[7], isRight(at, 7), 0)
	return way
}

// notEight are lists of other than eight numbers.
func notEight(way []int64) [][]int64 {
	return [][]int64{nil, {}, way[:1], way[:7], way[1:], append(slices.Clone(way), 0), make([]int64, 7), make([]int64, 9)}
}

// A peak may be 0 as well as any other number, and what is refused leads nowhere, not to 0.
func TestHoldsOfAPeakOfNought(t *testing.T) {
	for _, at := range []int64{0, 100, 128, 255} {
		for _, value := range []int64{-1, 0, 5, mostMoney} {
			way := wayToNought(at, value)
			if !impl.Holds(0, at, value, way) || impl.Holds(1, at, value, way) || impl.Holds(-1, at, value, way) {
				t.Fatal(at, value, way)
			}
			for _, other := range noPlaces {
				if impl.Holds(0, other, value, way) {
					t.Fatal(other, value, way)
				}
			}
			for _, other := range noValues {
				if impl.Holds(0, at, other, way) {
					t.Fatal(at, other, way)
				}
			}
			for _, other := range notEight(way) {
				if impl.Holds(0, at, value, other) {
					t.Fatal(at, value, other)
				}
			}
		}
	}
}

func TestHoldsOfAnyNumbers(t *testing.T) {
	source := rand.New(rand.NewSource(36))
	for range 3000 {
		at, value, way := source.Int63n(256), anyMoney(source)-source.Int63n(2), anyWay(source)
		numbers, _ := upFrom(at, value, way)
		if !impl.Holds(numbers[8], at, value, way) {
			t.Fatal(at, value, way)
		}
		for _, c := range []struct{ peak, at, value int64 }{{numbers[8] ^ 1, at, value}, {numbers[8], at ^ 1<<source.Intn(8), value}, {numbers[8], at, anyMoney(source)}, {int64(source.Uint64()), at, value}} {
			if got := impl.Holds(c.peak, c.at, c.value, way); got != holdsByRule(c.peak, c.at, c.value, way) {
				t.Fatal(c, way, got)
			}
		}
	}
}

func wantParted(t *testing.T, name string, at int64, value int64, way []int64, other int64, with []int64, want ...int64) {
	t.Helper()
	if got, is := impl.Parted(at, value, way, other, with); !is || !slices.Equal(got, want) {
		t.Errorf("%s: %v, %v", name, got, is)
	}
	// The other way round it is the same, the other one's first.
	if got, is := impl.Parted(at, other, with, value, way); !is || !slices.Equal(got, slices.Concat(want[2:], want[:2])) {
		t.Errorf("%s, the other one first: %v, %v", name, got, is)
	}
}

func refuseParted(t *testing.T, name string, at int64, value int64, way []int64, other int64, with []int64) {
	t.Helper()
	if got, is := impl.Parted(at, value, way, other, with); is || len(got) != 0 {
		t.Errorf("%s: %v, %v", name, got, is)
	}
	if got, is := impl.Parted(at, other, with, value, way); is || len(got) != 0 {
		t.Errorf("%s, the other one first: %v, %v", name, got, is)
	}
}

// Ways that meet, worked out apart from the program.
func TestPartedOfForms(t *testing.T) {
	list := leafs(3, 20, 7, 50)
	for name, c := range map[string]struct {
		at, value, other int64
		step             int
		beside           int64
		want             []int64
	}{
		"at the first step":                 {7, 50, 51, 1, 5483544098, []int64{0, 54661087, 5483544098, 54661088}},
		"at the second step":                {3, 20, 21, 2, 3374989125, []int64{106705140, 376798944, 3374989125, 376798945}},
		"at the third step, against none":   {7, 50, -1, 3, 1247566626, []int64{266971769, 1042941973, 1247566626, 2137582120}},
		"at the fifth step, on the left":    {3, 20, 0, 5, 2980664824, []int64{516808700, 1634209042, 599491683, 2980664824}},
		"at the last step, none against it": {4, -1, 1000, 8, 618714580, []int64{1255267992, 893562960, 453646132, 618714580}},
	} {
		way := impl.Way(list, c.at)
		with := slices.Clone(way)
		with[c.step-1] = c.beside
		if !impl.Holds(impl.Peak(list), c.at, c.value, way) || !impl.Holds(impl.Peak(list), c.at, c.other, with) {
			t.Errorf("%s: they do not hold", name)
		}
		wantParted(t, name, c.at, c.value, way, c.other, with, c.want...)
	}
}

func TestPartedAtTheLeaf(t *testing.T) {
	for name, list := range rightLeaves() {
		for at := range int64(256) {
			way := impl.Way(list, at)
			wantParted(t, fmt.Sprint(name, ": two Values at ", at), at, twinA, way, twinB, way, at, twinA, at, twinB)
		}
		for _, x := range noughtLeaves() {
			way := impl.Way(list, x.At)
			wantParted(t, fmt.Sprint(name, ": none and ", x), x.At, -1, way, x.Value, way, 0, -1, x.At, x.Value)
		}
	}
	source := rand.New(rand.NewSource(37))
	for range 200 {
		at, way := source.Int63n(256), anyWay(source)
		wantParted(t, "any way", at, twinA, way, twinB, slices.Clone(way), at, twinA, at, twinB)
	}
}

// valuesApart have no two with one number, at any place.
func valuesApart() [][2]int64 {
	return [][2]int64{{20, 21}, {0, mostMoney}, {-1, 5}, {mostMoney - 1, -1}}
}

func TestPartedAtEachStep(t *testing.T) {
	lists := rightLeaves()
	for _, name := range []string{"none", "some", "all, with their places"} {
		for i, at := range []int64{0, 1, 85, 127, 128, 170, 255} {
			two := valuesApart()[i%4]
			list := impl.Set(lists[name], at, two[0])
			way := impl.Way(list, at)
			for step := 1; step <= 8; step++ {
				with := meeting(at, two[0], way, two[1], way, step)
				if !impl.Holds(impl.Peak(list), at, two[0], way) || !impl.Holds(impl.Peak(list), at, two[1], with) {
					t.Fatalf("%s: %d: at step %d they do not hold", name, at, step)
				}
				one, _ := upFrom(at, two[0], way)
				other, _ := upFrom(at, two[1], with)
				want := []int64{one[step-1], way[step-1], other[step-1], with[step-1]}
				if isRight(at, step-1) {
					want = []int64{way[step-1], one[step-1], with[step-1], other[step-1]}
				}
				if impl.Pair(want[0], want[1]) != impl.Pair(want[2], want[3]) || slices.Equal(want[:2], want[2:]) {
					t.Fatal(want)
				}
				wantParted(t, fmt.Sprintf("%s: %d: at step %d", name, at, step), at, two[0], way, two[1], with, want...)
			}
		}
	}
}

// Ways that have no number alike and meet at one step alone; from there on they are alike.
func TestPartedOfUnlikeWays(t *testing.T) {
	source := rand.New(rand.NewSource(38))
	for i := range 64 {
		at, step := source.Int63n(256), 1+i%8
		two := valuesApart()[i/8%4]
		way, with := anyWay(source), anyWay(source)
		copy(with[step:], way[step:])
		with = meeting(at, two[0], way, two[1], with, step)
		want, is := partedByRule(at, two[0], way, two[1], with)
		_, parts := upFrom(at, two[0], way)
		if !is || !slices.Equal(want[:2], parts[step][:]) {
			t.Fatal(at, two, way, with, want)
		}
		wantParted(t, fmt.Sprint(at, two, way, with), at, two[0], way, two[1], with, want...)
	}
}

// Ways that meet at one step, part again, and meet once more: the first time counts.
func TestPartedTheFirstTime(t *testing.T) {
	for i, at := range []int64{0, 85, 170, 255} {
		for first := 0; first <= 6; first++ {
			for last := first + 2; last <= 8; last += 2 {
				value, other := valuesApart()[i][0], valuesApart()[i][1]
				if first == 0 {
					value, other = twinA, twinB
				}
				way := impl.Way(leafsFrom(0, 256, itself), at)
				with := slices.Clone(way)
				if first > 0 {
					with = meeting(at, value, way, other, with, first)
				}
				with[first]++
				with = meeting(at, value, way, other, with, last)
				one, ones := upFrom(at, value, way)
				two, twos := upFrom(at, other, with)
				if one[first] != two[first] || one[first+1] == two[first+1] || one[last] != two[last] || one[8] != two[8] {
					t.Fatal(at, first, last)
				}
				name := fmt.Sprintf("%d: at step %d and at step %d", at, first, last)
				wantParted(t, name, at, value, way, other, with, ones[first][0], ones[first][1], twos[first][0], twos[first][1])
			}
		}
	}
}

// Ways that meet, and then lead to unlike numbers.
func TestPartedOfWhatMeetsAndPartsAgain(t *testing.T) {
	for _, at := range []int64{0, 85, 170, 255} {
		way := impl.Way(leafs(3, 20, 7, 50), at)
		for step := range 8 {
			value, other, with := int64(twinA), int64(twinB), slices.Clone(way)
			if step > 0 {
				value, other = 20, 21
				with = meeting(at, value, way, other, way, step)
			}
			for behind := step; behind < 8; behind++ {
				apart := slices.Clone(with)
				apart[behind]++
				refuseParted(t, fmt.Sprintf("%d: at step %d, until step %d", at, step, behind), at, value, way, other, apart)
			}
		}
	}
}

func TestPartedOfAlikeValues(t *testing.T) {
	for name, list := range rightLeaves() {
		for at, value := range valuesOf(list) {
			way := impl.Way(list, int64(at))
			refuseParted(t, fmt.Sprint(name, ": alike at ", at), int64(at), value, way, value, way)
		}
	}
	// Their ways may be unlike, and meet: it is not the Values that part then.
	for _, value := range []int64{-1, 0, 50, mostMoney} {
		way := impl.Way(leafs(3, 20, 7, 50), 7)
		other := slices.Clone(way)
		other[2]++
		with := meeting(7, value, way, value, other, 5)
		numbers, _ := upFrom(7, value, with)
		if !impl.Holds(numbers[8], 7, value, way) || !impl.Holds(numbers[8], 7, value, with) {
			t.Fatal(way, with)
		}
		refuseParted(t, fmt.Sprint("alike by unlike ways: ", value), 7, value, way, value, with)
	}
}

func TestPartedOfWhatLeadsToUnlikeNumbers(t *testing.T) {
	for name, list := range rightLeaves() {
		for _, at := range []int64{0, 5, 100, 128, 255} {
			way := impl.Way(list, at)
			for _, two := range valuesApart() {
				refuseParted(t, fmt.Sprint(name, ": ", two, " at ", at), at, two[0], way, two[1], way)
			}
		}
	}
}

// Whatever is out of range is refused, though the numbers would come to one.
func TestPartedOfWhatIsNotAsTold(t *testing.T) {
	way := impl.Way(leafs(3, 20, 7, 50), 7)
	for _, at := range noPlaces {
		refuseParted(t, fmt.Sprint("at ", at), at, twinA, way, twinB, way)
		refuseParted(t, fmt.Sprint("meeting, at ", at), at, 50, way, 51, meeting(at, 50, way, 51, way, 4))
	}
	for _, value := range noValues {
		refuseParted(t, fmt.Sprint("a Value of ", value), 7, value, way, 50, meeting(7, value, way, 50, way, 4))
		refuseParted(t, fmt.Sprint("against none, a Value of ", value), 7, value, way, -1, meeting(7, value, way, -1, way, 1))
		refuseParted(t, fmt.Sprint("both a Value of ", value), 7, value, way, value, way)
	}
	with := meeting(7, 50, way, 51, way, 3)
	wantParted(t, "as told", 7, 50, way, 51, with, 266971769, 1042941973, with[2], impl.Pair(106705140, impl.Pair(0, impl.Pair(7, 51))))
	for size := range 8 {
		for name, c := range map[string][2][]int64{"both": {way[:size], with[:size]}, "the one": {way[:size], with}, "the other": {way, with[:size]}} {
			refuseParted(t, fmt.Sprint(name, " of ", size, " numbers"), 7, 50, c[0], 51, c[1])
			refuseParted(t, fmt.Sprint(name, " of ", size, " numbers, at the Leaf"), 7, twinA, c[0], twinB, c[1])
		}
	}
	for _, more := range []int{1, 8, 300} {
		long, longer := append(slices.Clone(way), make([]int64, more)...), append(slices.Clone(with), make([]int64, more)...)
		for name, c := range map[string][2][]int64{"both": {long, longer}, "the one": {long, with}, "the other": {way, longer}} {
			refuseParted(t, fmt.Sprint(name, " with ", more, " more"), 7, 50, c[0], 51, c[1])
			refuseParted(t, fmt.Sprint(name, " with ", more, " more, at the Leaf"), 7, twinA, c[0], twinB, c[1])
		}
	}
	refuseParted(t, "all of it", -1, -2, nil, mostMoney+1, way[:7])
}

// The same of a peak of 0, to which what is refused does not lead.
func TestPartedOfAPeakOfNought(t *testing.T) {
	for i, at := range []int64{0, 100, 128, 255} {
		value, other := valuesApart()[i][0], valuesApart()[i][1]
		way, with := wayToNought(at, value), wayToNought(at, other)
		one, _ := upFrom(at, value, way)
		two, _ := upFrom(at, other, with)
		want := []int64{one[7], way[7], two[7], with[7]}
		if isRight(at, 7) {
			want = []int64{way[7], one[7], with[7], two[7]}
		}
		wantParted(t, fmt.Sprint("both at ", at), at, value, way, other, with, want...)
		for _, none := range noValues {
			refuseParted(t, fmt.Sprint("against ", none, " at ", at), at, value, way, none, with)
		}
		for _, none := range notEight(with) {
			refuseParted(t, fmt.Sprint("against ", none, " at ", at), at, value, way, other, none)
		}
	}
}

// checkPromise asks promise 12 of a place, another Value and any way: that it does not hold, or that Parted tells two unlike pairs with one number, or a Leaf whose number is 0. It tells whether it holds.
func checkPromise(t *testing.T, list []impl.Leaf, at int64, other int64, with []int64) bool {
	t.Helper()
	peak, way, value := impl.Peak(list), impl.Way(list, at), valuesOf(list)[at]
	if !impl.Holds(peak, at, value, way) {
		t.Fatalf("%v: %d does not hold with %d", list, at, value)
	}
	holds := impl.Holds(peak, at, other, with)
	if holds != holdsByRule(peak, at, other, with) {
		t.Fatalf("%v: %d with %d and %v: %v", list, at, other, with, holds)
	}
	got, is := impl.Parted(at, value, way, other, with)
	if want, ok := partedByRule(at, value, way, other, with); is != ok || !slices.Equal(got, want) {
		t.Fatalf("%v: %d with %d and %v: %v, %v", list, at, other, with, got, is)
	}
	if is != (holds && other != value) {
		t.Fatalf("%v: %d with %d and %v: it holds, %v, and is parted, %v", list, at, other, with, holds, is)
	}
	if is && !isFound(got) {
		t.Fatalf("%v: %d with %d and %v: %v", list, at, other, with, got)
	}
	return is
}

// isFound tells whether four numbers show what nobody should find.
func isFound(four []int64) bool {
	if len(four) != 4 {
		return false
	}
	one, other := [2]int64{four[0], four[1]}, [2]int64{four[2], four[3]}
	none := [2]int64{0, -1}
	unlike := one != other && impl.Pair(one[0], one[1]) == impl.Pair(other[0], other[1])
	nought := one == none && impl.Pair(other[0], other[1]) == 0 || other == none && impl.Pair(one[0], one[1]) == 0
	return unlike || nought
}

// Promise 12, by ways that are right, changed, made up and forged.
func TestAValueThatIsNotThere(t *testing.T) {
	source := rand.New(rand.NewSource(39))
	forged, refused := 0, 0
	for round := range 120 {
		list := anyLeaves(source)
		at := source.Int63n(256)
		if round%3 == 0 {
			list = impl.Set(list, at, twinA)
		}
		value, way := valuesOf(list)[at], impl.Way(list, at)
		for _, other := range []int64{-1, 0, twinA, twinB, mostMoney, anyMoney(source), value} {
			ways := [][]int64{way, anyWay(source), impl.Way(list, source.Int63n(256)), impl.Way(anyLeaves(source), at)}
			if other != value {
				step := 1 + source.Intn(8)
				ways = append(ways, meeting(at, value, way, other, way, step), meeting(at, value, way, other, anyWay(source), 8))
			}
			for _, with := range ways {
				if checkPromise(t, list, at, other, with) {
					forged++
				} else {
					refused++
				}
			}
		}
	}
	for _, x := range noughtLeaves() {
		for _, list := range rightLeaves() {
			list = impl.Set(list, x.At, -1)
			if !checkPromise(t, list, x.At, x.Value, impl.Way(list, x.At)) || !checkPromise(t, impl.Set(list, x.At, x.Value), x.At, -1, impl.Way(list, x.At)) {
				t.Fatal(list, x)
			}
		}
	}
	if forged < 500 || refused < 500 {
		t.Fatal(forged, refused)
	}
}

// trieArguments are those of all functions of the chapter.
type trieArguments struct {
	Leaves []impl.Leaf
	At     int64
	Value  int64
	Way    []int64
	Other  int64
	With   []int64
}

func (x trieArguments) roomy() trieArguments {
	x.Leaves = roomy(x.Leaves, leafs(256, -1, 0, 7, 255, 7, 12, 7)...)
	x.Way = roomy(x.Way, 1, -1, 0, 5)
	x.With = roomy(x.With, 7, 0, -1, 5)
	return x
}

func (x trieArguments) tight() trieArguments {
	x.Leaves = slices.Clip(slices.Clone(x.Leaves))
	x.Way = slices.Clip(slices.Clone(x.Way))
	x.With = slices.Clip(slices.Clone(x.With))
	return x
}

func trieAnswers() map[string]func(trieArguments) any {
	type parted struct {
		Four []int64
		Is   bool
	}
	return map[string]func(trieArguments) any{
		"LeavesOk":     func(x trieArguments) any { return impl.LeavesOk(x.Leaves) },
		"Set":          func(x trieArguments) any { return impl.Set(x.Leaves, x.At, x.Value) },
		"Set, without": func(x trieArguments) any { return impl.Set(x.Leaves, x.At, -1) },
		"Set, refused": func(x trieArguments) any { return impl.Set(x.Leaves, x.At, -2) },
		"Set, at none": func(x trieArguments) any { return impl.Set(x.Leaves, 256, x.Value) },
		"Set, as it is": func(x trieArguments) any {
			if !leavesByRule(x.Leaves) || x.At < 0 || x.At > 255 {
				return impl.Set(x.Leaves, x.At, x.Value)
			}
			return impl.Set(x.Leaves, x.At, valuesOf(x.Leaves)[x.At])
		},
		"Peak": func(x trieArguments) any { return impl.Peak(x.Leaves) },
		"Way":  func(x trieArguments) any { return impl.Way(x.Leaves, x.At) },
		"Holds": func(x trieArguments) any {
			return impl.Holds(impl.Peak(x.Leaves), x.At, x.Value, x.Way)
		},
		"Parted": func(x trieArguments) any {
			four, is := impl.Parted(x.At, x.Value, x.Way, x.Other, x.With)
			return parted{four, is}
		},
		"Parted, one way twice": func(x trieArguments) any {
			four, is := impl.Parted(x.At, x.Value, x.Way, x.Other, x.Way)
			return parted{four, is}
		},
	}
}

// trieCases goes through the functions and arguments of all kinds.
func trieCases(with func(name string, x trieArguments, answer func(trieArguments) any)) {
	lists := rightLeaves()
	for name, list := range wrongLeaves() {
		lists["wrong: "+name] = list
	}
	some := impl.Way(leafs(3, 20, 7, 50), 7)
	forged := meeting(7, 50, some, 51, some, 3)
	for name, list := range lists {
		for i, x := range []trieArguments{
			{At: 7, Value: 50, Way: some, Other: 51, With: forged},
			{At: 7, Value: twinA, Way: impl.Way(list, 7), Other: twinB, With: some},
			{At: 0, Value: 0, Way: impl.Way(list, 0), Other: -1, With: impl.Way(list, 0)},
			{At: 255, Value: -1, Way: impl.Way(list, 255), Other: mostMoney, With: forged},
			{At: 100, Value: 1, Way: some[:7], Other: 2, With: some[1:]},
			{At: 256, Value: 1, Other: -2, With: make([]int64, 9)},
		} {
			x.Leaves = list
			for what, answer := range trieAnswers() {
				with(fmt.Sprint(name, ", ", i, ": ", what), x, answer)
			}
		}
	}
}

func TestTriesLeaveTheirArguments(t *testing.T) {
	trieCases(func(name string, x trieArguments, answer func(trieArguments) any) {
		wantLeft(t, name, x, answer)
	})
}

func TestTriesGiveNewMemory(t *testing.T) {
	trieCases(func(name string, x trieArguments, answer func(trieArguments) any) {
		wantNewMemory(t, name, x, answer)
	})
}

// What is written into an answer is in none of the arguments, nor in an answer that comes later.
func TestTriesApartFromTheirAnswers(t *testing.T) {
	for name, list := range rightLeaves() {
		before := slices.Clone(list)
		for _, at := range []int64{0, 3, 7, 100, 255} {
			way := impl.Way(list, at)
			kept := slices.Clone(way)
			spoil(way, -7)
			if again := impl.Way(list, at); !slices.Equal(again, kept) {
				t.Fatalf("%s: a Way at %d is kept: %v", name, at, again)
			}
			for _, value := range []int64{-1, 0, 50} {
				set := impl.Set(list, at, value)
				spoil(set, impl.Leaf{At: -7, Value: -7})
				if again := impl.Set(list, at, value); !slices.Equal(list, before) || !slices.Equal(again, setByRule(before, at, value)) {
					t.Fatalf("%s: Set at %d is the argument's memory", name, at)
				}
			}
			four, _ := impl.Parted(at, twinA, kept, twinB, kept)
			spoil(four, -7)
			wantParted(t, name, at, twinA, kept, twinB, kept, at, twinA, at, twinB)
			if peak := impl.Peak(list); !slices.Equal(kept, impl.Way(list, at)) || peak != peakByRule(before) {
				t.Fatalf("%s: at %d: %d", name, at, peak)
			}
		}
	}
}
