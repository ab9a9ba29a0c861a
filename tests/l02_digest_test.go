package tests

import (
	"math"
	"math/big"
	"math/rand"
	"slices"
	"strconv"
	"strings"
	"testing"

	"loop.example/g00217/impl"
)

// digestForms has texts and their digests, worked out apart from the program.
var digestForms = []struct {
	text   string
	digest int64
}{
	{"", 1},
	{"\x00", 1000004},
	{"\x01", 1000005},
	{"a", 1000101},
	{"\x7f", 1000131},
	{"\x80", 1000132},
	{"\xfe", 1000258},
	{"\xff", 1000259},
	{"\x00\x00", 1427104158},
	{"ab", 1524104547},
	{"ba", 1525104549},
	{"\x80\x00", 1555104542},
	{"\xff\xff\xff", 1316006219},
	{"3,4", 90050312},
	{"cairn", 2084868313},
	{"secret", 2108390730},
	{"\xc3\xa4\xc3\xb6\xc3\xbc", 2031239456},
	{"stones that nobody moves", 1438857969},
	{strings.Repeat("x", 40), 2075600052},
	{strings.Repeat("x", 3000), 1535483651},
	{strings.Repeat("\xff", 3000), 1366146461},
	{strings.Repeat("\x00", 100000), 277163466},
	// 0 is a digest as good as any.
	{"aavsaz\xb4", 0},
}

// pairForms has pairs and their numbers, worked out apart from the program.
var pairForms = []struct{ a, b, digest int64 }{
	{0, 0, 106705140},
	{0, 1, 106705141},
	{1, 0, 1532809294},
	{3, 4, 90050312},
	{4, 3, 1516154465},
	{-1, 0, 975531514},
	{0, -1, 1289663325},
	{-1, -1, 1336239187},
	{-3, -4, 1287879065},
	{12, 3, 157431774},
	{1, 23, 196741456},
	{10, 0, 1600190757},
	{100, -100, 2145877789},
	{2147483647, 2147483646, 1078738451},
	{most, 0, 816149499},
	{math.MinInt64, math.MaxInt64, 1280737159},
	{math.MaxInt64, math.MinInt64, 1609018770},
	{math.MinInt64, math.MinInt64, 107729282},
	{math.MaxInt64, math.MaxInt64, 786322836},
}

// tagForms has, for each server, the tags of an empty text, of x, and of bytes of all kinds, worked out apart from the program.
var tagForms = [][3]int64{
	{427503278, 695934371, 922390541},
	{428503281, 2122038525, 1555754649},
	{429503284, 1400659032, 41635110},
	{430503287, 679279539, 674999218},
	{431503290, 2105383693, 1308363326},
	{432503293, 1384004200, 1941727434},
	{433503296, 662624707, 427607895},
}

var taggedTexts = [3]string{"", "x", "stones \xff\x00"}

// clashes are unlike texts with one digest.
var clashes = [][2]string{
	{"atuwtwkco", "qybuogwlf"},
	{"nykz", "vmziddbe"},
	{"kbwdco", "durstkzh"},
	{"caxnydwq", "ddbp"},
	{"zfumssqd", "bqrezo"},
	{"wxscgg", "lzmrrkqi"},
}

var serversOutOfRange = []int64{-1, -2, -7, 7, 8, 10, 256, 1 << 32, math.MinInt64, math.MaxInt64}

// bigDigest is the document's rule in numbers that can't wrap round.
func bigDigest(text string) int64 {
	h, factor, modulus := big.NewInt(1), big.NewInt(1000003), big.NewInt(2147483647)
	for i := range len(text) {
		h.Mul(h, factor)
		h.Add(h, big.NewInt(int64(text[i])+1))
		h.Mod(h, modulus)
	}
	return h.Int64()
}

func decimal(n int64) string {
	return strconv.FormatInt(n, 10)
}

// anyTexts are texts of all bytes, of few lengths and of many.
func anyTexts(seed int64, count int) []string {
	source := rand.New(rand.NewSource(seed))
	list := []string{}
	for range count {
		s := make([]byte, source.Intn(1<<source.Intn(12)))
		source.Read(s)
		list = append(list, string(s))
	}
	return list
}

func TestConstantsOfDigests(t *testing.T) {
	if impl.MaxServers != 7 {
		t.Fatal(impl.MaxServers)
	}
}

func TestDigestOfTheForms(t *testing.T) {
	for _, c := range digestForms {
		if got := impl.Digest(c.text); got != c.digest {
			t.Errorf("Digest(%.30q), of %d bytes: %d, not %d", c.text, len(c.text), got, c.digest)
		}
	}
}

func TestDigestOfEachByte(t *testing.T) {
	for b := range int64(256) {
		if got := impl.Digest(string([]byte{byte(b)})); got != 1000003+b+1 {
			t.Errorf("the byte %d: %d", b, got)
		}
	}
}

func TestDigestIsTheRule(t *testing.T) {
	for _, s := range anyTexts(3, 500) {
		if got, want := impl.Digest(s), bigDigest(s); got != want {
			t.Fatalf("Digest(%.30q), of %d bytes: %d, not %d", s, len(s), got, want)
		}
	}
}

func TestPairOfTheForms(t *testing.T) {
	for _, c := range pairForms {
		if got := impl.Pair(c.a, c.b); got != c.digest {
			t.Errorf("Pair(%d, %d) = %d, not %d", c.a, c.b, got, c.digest)
		}
	}
}

func TestPairIsDigestOfBoth(t *testing.T) {
	numbers := []int64{0, 1, -1, 9, 10, -10, 99, 100, 2147483646, 2147483647, -2147483648, 1 << 32, most, -most, math.MinInt64, math.MinInt64 + 1, math.MaxInt64, math.MaxInt64 - 1}
	for _, a := range numbers {
		for _, b := range numbers {
			if got, want := impl.Pair(a, b), impl.Digest(decimal(a)+","+decimal(b)); got != want {
				t.Errorf("Pair(%d, %d) = %d, not %d", a, b, got, want)
			}
		}
	}
}

func TestTagOfTheForms(t *testing.T) {
	for server, tags := range tagForms {
		for i, text := range taggedTexts {
			if got := impl.Tag(int64(server), text); got != tags[i] {
				t.Errorf("Tag(%d, %q) = %d, not %d", server, text, got, tags[i])
			}
		}
	}
}

func TestTagIsDigestOfTheSecret(t *testing.T) {
	for _, text := range anyTexts(4, 200) {
		for server := range int64(7) {
			if got, want := impl.Tag(server, text), bigDigest("secret"+decimal(server)+"/"+text); got != want {
				t.Fatalf("Tag(%d, %.30q) = %d, not %d", server, text, got, want)
			}
		}
	}
}

func TestTagOutOfRange(t *testing.T) {
	for _, server := range serversOutOfRange {
		for _, text := range []string{"", "x", "cairn", strings.Repeat("\xff", 3000)} {
			if got := impl.Tag(server, text); got != -1 {
				t.Errorf("Tag(%d, %.10q) = %d", server, text, got)
			}
		}
	}
}

func TestSignedByTheRightTag(t *testing.T) {
	for server, tags := range tagForms {
		for i, text := range taggedTexts {
			if !impl.Signed(int64(server), text, tags[i]) {
				t.Errorf("Signed(%d, %q, %d) is false", server, text, tags[i])
			}
		}
	}
}

func TestSignedByAWrongTag(t *testing.T) {
	for server := range int64(7) {
		for _, text := range []string{"", "x", "cairn", strings.Repeat("v", 3000)} {
			tag := impl.Tag(server, text)
			wrong := []int64{-1, 0, -tag, tag + 1, tag - 1, tag + 2147483647, tag - 2147483647, tag + 1<<32, math.MinInt64, math.MaxInt64}
			wrong = append(wrong, impl.Digest(text), impl.Tag((server+1)%7, text), impl.Tag((server+6)%7, text), impl.Tag(server, text+"x"), impl.Tag(server, "/"+text))
			for _, other := range wrong {
				if impl.Signed(server, text, other) {
					t.Errorf("Signed(%d, %.10q, %d), whose tag is %d", server, text, other, tag)
				}
			}
		}
	}
}

func TestSignedOutOfRange(t *testing.T) {
	for _, server := range serversOutOfRange {
		for _, text := range []string{"", "x", "cairn"} {
			tags := []int64{-1, 0, 1, impl.Digest("secret" + decimal(server) + "/" + text), impl.Tag(0, text), impl.Tag(6, text)}
			for _, tag := range tags {
				if impl.Signed(server, text, tag) {
					t.Errorf("Signed(%d, %q, %d)", server, text, tag)
				}
			}
		}
	}
}

// What is Signed is Tagged: of all tags of all servers, just those that are equal are right.
func TestSignedIsTagged(t *testing.T) {
	texts := append(anyTexts(5, 20), "", "x", "y", "cairn", "atuwtwkco", "qybuogwlf")
	for _, text := range texts {
		for server := int64(-2); server < 10; server++ {
			in := server >= 0 && server < 7
			for by := int64(-2); by < 10; by++ {
				for _, of := range texts {
					tag := impl.Tag(by, of)
					if got, want := impl.Signed(server, text, tag), in && tag == impl.Tag(server, text); got != want {
						t.Fatalf("Signed(%d, %.10q, %d) is %v", server, text, tag, got)
					}
				}
			}
		}
	}
}

// Texts of one length that clash have one tag, so the tag of one is right for the other: the rule asks for no more than the number.
func TestSignedOfTextsThatClash(t *testing.T) {
	tag := impl.Tag(2, "atuwtwkco")
	if tag != impl.Tag(2, "qybuogwlf") || !impl.Signed(2, "qybuogwlf", tag) || impl.Signed(3, "qybuogwlf", tag) {
		t.Fatal(tag, impl.Tag(2, "qybuogwlf"))
	}
}

func TestClashOfUnlikeTextsWithOneDigest(t *testing.T) {
	for _, c := range clashes {
		if bigDigest(c[0]) != bigDigest(c[1]) {
			t.Fatal("no clash by the rule", c)
		}
		if !impl.Clash(c[0], c[1]) || !impl.Clash(c[1], c[0]) {
			t.Errorf("%q and %q don't clash", c[0], c[1])
		}
	}
}

func TestClashOfOthers(t *testing.T) {
	for _, c := range [][2]string{
		{"", ""},
		{"a", "a"},
		{"atuwtwkco", "atuwtwkco"},
		{strings.Repeat("x", 3000), strings.Repeat("x", 3000)},
		{"a", "b"},
		{"ab", "ba"},
		{"", "\x00"},
		{"\x00", "\x00\x00"},
		{"\x7f", "\xff"},
		{"atuwtwkco", "qybuogwl"},
		{"cairn", "Cairn"},
		{strings.Repeat("x", 3000), strings.Repeat("x", 2999)},
	} {
		if impl.Clash(c[0], c[1]) || impl.Clash(c[1], c[0]) {
			t.Errorf("%.20q and %.20q clash", c[0], c[1])
		}
	}
}

// Two texts have one Digest just where they are alike or Clash.
func TestOneDigestIsAlikeOrClash(t *testing.T) {
	texts := append(anyTexts(6, 60), "", "a", "b", "\x00")
	for _, c := range clashes {
		texts = append(texts, c[0], c[1])
	}
	for _, a := range texts {
		for _, b := range texts {
			one := impl.Digest(a) == impl.Digest(b)
			if alike := a == b; one != (alike || impl.Clash(a, b)) || alike && impl.Clash(a, b) {
				t.Fatalf("%.20q and %.20q: one digest is %v, Clash %v", a, b, one, impl.Clash(a, b))
			}
		}
	}
}

// An answer hangs on its arguments alone, whatever was asked ahead of it.
func TestDigestsKeepNothing(t *testing.T) {
	data := []byte("stones that nobody moves")
	before := slices.Clone(data)
	first := [5]int64{impl.Digest(string(data)), impl.Pair(-3, 4), impl.Tag(6, string(data)), impl.Tag(-1, string(data)), impl.Tag(7, string(data))}
	impl.Signed(6, string(data), first[2])
	impl.Clash(string(data), string(data)+"x")
	second := [5]int64{impl.Digest(string(data)), impl.Pair(-3, 4), impl.Tag(6, string(data)), impl.Tag(-1, string(data)), impl.Tag(7, string(data))}
	if first != second || !slices.Equal(data, before) {
		t.Fatal(first, second, string(data))
	}
}
