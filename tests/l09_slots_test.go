package tests

import (
	"fmt"
	"math"
	"math/rand"
	"reflect"
	"regexp"
	"slices"
	"strconv"
	"strings"
	"testing"

	"loop.example/g00217/impl"
)

// slotByRule writes what chapter 9 tells of a slot.
func slotByRule(generation int64, text string) string {
	if generation < 1 || generation > 1000000 || len(text) > 300 {
		return ""
	}
	return fmt.Sprintf("%d %d %s", generation, bigDigest(text), text)
}

// slotForm is a number from 1 on, a number and a text, with blanks between.
var slotForm = regexp.MustCompile(`(?s)^([1-9][0-9]{0,9}) (0|[1-9][0-9]{0,9}) (.*)$`)

func readSlotByRule(s string) (int64, string, bool) {
	at := slotForm.FindStringSubmatchIndex(s)
	if at == nil {
		return 0, "", false
	}
	text := s[at[6]:at[7]]
	generation, _ := strconv.ParseInt(s[at[2]:at[3]], 10, 64)
	if generation > 1000000 || len(text) > 300 || decimal(bigDigest(text)) != s[at[4]:at[5]] {
		return 0, "", false
	}
	return generation, text, true
}

// rootByRule has the sector of the root too; -1 where there is none.
func rootByRule(d impl.Device) (int64, string, int) {
	generation, text, sector := int64(0), "", -1
	if !deviceByRule(d) || len(d.Sectors) < 2 {
		return generation, text, sector
	}
	for at := range 2 {
		if n, s, is := readSlotByRule(liesByRule(d, int64(at))); is && n > generation {
			generation, text, sector = n, s, at
		}
	}
	return generation, text, sector
}

// nextByRule has the text of the next slot and its sector; -1 where there can be none.
func nextByRule(d impl.Device, text string) (string, int) {
	generation, _, sector := rootByRule(d)
	next := slotByRule(generation+1, text)
	if !deviceByRule(d) || len(d.Sectors) < 2 || next == "" {
		return "", -1
	}
	if sector == 0 {
		return next, 1
	}
	return next, 0
}

func switchByRule(d impl.Device, text string) (impl.Device, bool) {
	next, at := nextByRule(d, text)
	if !deviceByRule(d) {
		return impl.Device{}, false
	}
	if at < 0 {
		return d, false
	}
	all := barrierByRule(d)
	all.Sectors[at] = next
	return all, true
}

func halfwayByRule(d impl.Device, text string, kept bool) impl.Device {
	next, is := switchByRule(d, text)
	if !is {
		return impl.Device{}
	}
	if !kept {
		return barrierByRule(d)
	}
	return next
}

// onSectors is a device with these texts and nothing late.
func onSectors(sectors ...string) impl.Device {
	return impl.Device{Sectors: sectors}
}

func withLate(d impl.Device, late ...impl.Patch) impl.Device {
	return impl.Device{Sectors: d.Sectors, Late: slices.Concat(d.Late, late)}
}

// rooted are devices of two sectors and more, each with the root that it has.
func rooted() map[string]struct {
	d          impl.Device
	generation int64
	text       string
} {
	type with = struct {
		d          impl.Device
		generation int64
		text       string
	}
	slot := slotByRule
	long := fmt.Sprintf("7 %d %s", bigDigest(sized(301)), sized(301))
	beyond := fmt.Sprintf("1000001 %d x", bigDigest("x"))
	return map[string]with{
		"no slot":                          {onSectors("", ""), 0, ""},
		"other texts":                      {onSectors("a", "b", "c"), 0, ""},
		"one in 0":                         {onSectors(slot(3, "x"), ""), 3, "x"},
		"one in 0 of 3 sectors":            {onSectors(slot(3, "x"), "", "z"), 3, "x"},
		"one in 1":                         {onSectors("", slot(3, "x")), 3, "x"},
		"one in 1 of 16 sectors":           {impl.Device{Sectors: append([]string{"a", slot(3, "x")}, sectorsOf(14)...)}, 3, "x"},
		"two, the greater in 0":            {onSectors(slot(5, "new"), slot(4, "old")), 5, "new"},
		"two, the greater in 1":            {onSectors(slot(4, "old"), slot(5, "new")), 5, "new"},
		"two, far apart, in 0":             {onSectors(slot(1000, "new"), slot(9, "old")), 1000, "new"},
		"two, far apart, in 1":             {onSectors(slot(9, "old"), slot(10, "new")), 10, "new"},
		"alike generations, unlike texts":  {onSectors(slot(4, "a"), slot(4, "b")), 4, "a"},
		"alike generations, the other way": {onSectors(slot(4, "b"), slot(4, "a")), 4, "b"},
		"alike slots":                      {onSectors(slot(4, "a"), slot(4, "a"), ""), 4, "a"},
		"an empty text in 0":               {onSectors(slot(2, ""), slot(1, "x")), 2, ""},
		"an empty text in 1":               {onSectors(slot(1, "x"), slot(2, "")), 2, ""},
		"a slot in 2 alone":                {onSectors("", "", slot(3, "x")), 0, ""},
		"a greater slot in 2":              {onSectors(slot(1, "x"), "", slot(3, "y")), 1, "x"},
		"a greater slot in each other":     {onSectors("", slot(1, "x"), slot(3, "y"), slot(9, "z")), 1, "x"},
		"generation MaxSeq in 0":           {onSectors(slot(1000000, "x"), ""), 1000000, "x"},
		"generation MaxSeq in 1":           {onSectors("", slot(1000000, "x")), 1000000, "x"},
		"generation MaxSeq, and below":     {onSectors(slot(999999, "y"), slot(1000000, "x")), 1000000, "x"},
		"generation MaxSeq - 1":            {onSectors(slot(999999, "x"), slot(2, "y")), 999999, "x"},
		"a generation beyond MaxSeq":       {onSectors(beyond, ""), 0, ""},
		"beyond MaxSeq, and another":       {onSectors(beyond, slot(1, "y")), 1, "y"},
		"301 bytes":                        {onSectors(long, ""), 0, ""},
		"301 bytes, and another":           {onSectors(slot(1, "y"), long), 1, "y"},
		"300 bytes":                        {onSectors("", slot(1000000, sized(300))), 1000000, sized(300)},
		"a broken one in 0":                {onSectors(slot(9, "x")+"y", slot(2, "y")), 2, "y"},
		"a broken one in 1":                {onSectors(slot(2, "y"), "0"+slot(9, "x")), 2, "y"},
		"two broken ones":                  {onSectors("9 1 x", "8 1 y"), 0, ""},
		"generation 0":                     {onSectors("0 1 ", ""), 0, ""},
		"late in 0":                        {withLate(onSectors("", ""), impl.Patch{At: 0, Text: slot(3, "x")}), 3, "x"},
		"late in 1":                        {withLate(onSectors("", "", ""), impl.Patch{At: 1, Text: slot(3, "x")}), 3, "x"},
		"late in 2":                        {withLate(onSectors("", "", ""), impl.Patch{At: 2, Text: slot(3, "x")}), 0, ""},
		"late over a greater one":          {withLate(onSectors(slot(9, "old"), slot(2, "y")), impl.Patch{At: 0, Text: slot(3, "x")}), 3, "x"},
		"late over the greater of two":     {withLate(onSectors(slot(9, "old"), slot(5, "y")), impl.Patch{At: 0, Text: slot(3, "x")}), 5, "y"},
		"another text late over it":        {withLate(onSectors(slot(9, "old"), ""), impl.Patch{At: 0, Text: "gone"}), 0, ""},
		"an empty text late over it":       {withLate(onSectors(slot(9, "old"), slot(2, "y")), impl.Patch{At: 0}), 2, "y"},
		"late, and the last one counts":    {withLate(onSectors("", ""), impl.Patch{At: 1, Text: slot(7, "a")}, impl.Patch{At: 0, Text: slot(5, "b")}, impl.Patch{At: 1, Text: slot(4, "c")}), 5, "b"},
		"late in other sectors":            {withLate(onSectors(slot(2, "y"), "", "c", "d"), impl.Patch{At: 3, Text: "p"}, impl.Patch{At: 2, Text: "q"}, impl.Patch{At: 3, Text: "r"}), 2, "y"},
		"30 late in other sectors":         {withLate(onSectors("", slot(2, "y"), "c"), slices.Repeat([]impl.Patch{{At: 2, Text: "p"}}, 30)...), 2, "y"},
		"30 late in all sectors":           {withLate(onSectors(sectorsOf(4)...), lateOf(30, 4)...), 0, ""},
		"30 late, the last one a slot":     {withLate(onSectors(sectorsOf(4)...), append(lateOf(29, 4), impl.Patch{At: 1, Text: slot(8, "x")})...), 8, "x"},
		"16 sectors with 30 late":          {withLate(impl.Device{Sectors: append([]string{slot(6, "x"), ""}, sectorsOf(14)...)}, slices.Repeat([]impl.Patch{{At: 15, Text: sized(400)}}, 30)...), 6, "x"},
		"all sectors full":                 {onSectors(sized(400), sized(400), sized(400)), 0, ""},
		"a pile":                           {pile(), 0, ""},
		"any bytes":                        {onSectors("\x00\xff", slot(1, "\xff\x00\n")), 1, "\xff\x00\n"},
	}
}

// rootless are right devices that are too small for two slots.
func rootless() map[string]impl.Device {
	return map[string]impl.Device{
		"1 sector":                   onSectors(""),
		"1 sector with a slot":       onSectors(slotByRule(3, "x")),
		"1 sector with a slot late":  withLate(onSectors(""), impl.Patch{At: 0, Text: slotByRule(3, "x")}),
		"1 sector with 30 late":      withLate(onSectors("a"), lateOf(30, 1)...),
		"1 sector of MaxSeq":         onSectors(slotByRule(1000000, "x")),
		"1 sector of 400 bytes":      onSectors(sized(400)),
		"1 sector with another late": withLate(onSectors(slotByRule(3, "x")), impl.Patch{At: 0}),
	}
}

func slotDevices() map[string]impl.Device {
	devices := memoryDevices()
	for name, c := range rooted() {
		devices["rooted: "+name] = c.d
	}
	for name, d := range rootless() {
		devices["rootless: "+name] = d
	}
	// What lies in a device that is not DeviceOk does not count.
	for name, d := range wrongDevices() {
		d = deviceClone(d)
		for at := range min(2, len(d.Sectors)) {
			d.Sectors[at] = slotByRule(int64(at)+1, "x")
		}
		devices["with slots: "+name] = d
	}
	return devices
}

func slotTexts() []string {
	return []string{"", "x", "two words", " ", "  ", "1 1 ", "\x00\xff\n", sized(299), sized(300), sized(301), strings.Repeat("é", 150), strings.Repeat("é", 151), sized(400), sized(3001)}
}

var anyGenerations = []int64{math.MinInt64, math.MinInt64 + 1, -1 << 32, -1000000, -1, 0, 1, 2, 9, 10, 999999, 1000000, 1000001, 9999999999, 10000000000, 1<<32 + 1, math.MaxInt64 - 1, math.MaxInt64}

func TestSlotOfForms(t *testing.T) {
	for name, c := range map[string]struct {
		generation int64
		text       string
		want       string
	}{
		"ordinary":                      {3, "x", "3 1000124 x"},
		"generation 1, no text":         {1, "", "1 1 "},
		"a blank":                       {10, " ", "10 1000036  "},
		"a byte 0":                      {7, "\x00", "7 1000004 \x00"},
		"a byte 255":                    {7, "\xff", "7 1000259 \xff"},
		"generation MaxSeq":             {1000000, "", "1000000 1 "},
		"generation 0":                  {0, "x", ""},
		"generation -1":                 {-1, "x", ""},
		"generation MaxSeq + 1":         {1000001, "x", ""},
		"the least generation":          {math.MinInt64, "x", ""},
		"the greatest generation":       {math.MaxInt64, "x", ""},
		"generation 0, no text":         {0, "", ""},
		"301 bytes":                     {1, sized(301), ""},
		"301 bytes in fewer runes":      {1, "x" + strings.Repeat("é", 150), ""},
		"generation 1 and 2 to the 32":  {1<<32 + 1, "x", ""},
		"generation and text are wrong": {0, sized(301), ""},
	} {
		if got := impl.Slot(c.generation, c.text); got != c.want {
			t.Errorf("%s: %q", name, got)
		}
	}
}

func TestSlotByTheRule(t *testing.T) {
	for _, generation := range anyGenerations {
		for _, text := range append(slotTexts(), anyTexts(21, 20)...) {
			s := impl.Slot(generation, text)
			if s != slotByRule(generation, text) {
				t.Fatalf("Slot of %d, %q: %q", generation, text, s)
			}
			if s == "" {
				continue
			}
			if n, again, is := impl.ReadSlot(s); !is || n != generation || again != text {
				t.Fatalf("ReadSlot of %q: %d, %q, %v", s, n, again, is)
			}
			if len(s) > impl.MaxSector {
				t.Fatalf("no room for %q", s)
			}
		}
	}
}

func refuseSlot(t *testing.T, name string, s string) {
	t.Helper()
	if n, text, is := impl.ReadSlot(s); is || n != 0 || text != "" {
		t.Errorf("%s: ReadSlot of %q: %d, %q, %v", name, s, n, text, is)
	}
}

func TestReadSlotOfRightOnes(t *testing.T) {
	for s, want := range map[string]struct {
		generation int64
		text       string
	}{
		"1 1 ":                       {1, ""},
		"1000000 1 ":                 {1000000, ""},
		"3 1000124 x":                {3, "x"},
		"10 1000036  ":               {10, " "},
		slotByRule(2, "1 1 "):        {2, "1 1 "},
		slotByRule(2, " a  b "):      {2, " a  b "},
		slotByRule(999, sized(300)):  {999, sized(300)},
		slotByRule(5, "\n\x00\xff"):  {5, "\n\x00\xff"},
		slotByRule(100000, "é"):      {100000, "é"},
		slotByRule(1, "3 1000124 x"): {1, "3 1000124 x"},
	} {
		if n, text, is := impl.ReadSlot(s); !is || n != want.generation || text != want.text {
			t.Errorf("%q: %d, %q, %v", s, n, text, is)
		}
	}
}

func TestReadSlotOfWrongOnes(t *testing.T) {
	x := decimal(bigDigest("x"))
	for name, s := range map[string]string{
		"empty":                                 "",
		"a blank":                               " ",
		"two blanks alone":                      "  ",
		"a number alone":                        "3",
		"no blank":                              "3" + x + "x",
		"no second blank":                       "3 " + x + "x",
		"no blank behind the digest of nothing": "1 1",
		"no digest":                             "3  x",
		"no generation":                         " " + x + " x",
		"two blanks first":                      "3  " + x + " x",
		"two blanks at the text":                "3 " + x + "  x",
		"a blank ahead":                         " 3 " + x + " x",
		"a nought ahead of the generation":      "03 " + x + " x",
		"a + ahead of the generation":           "+3 " + x + " x",
		"a - ahead of the generation":           "-3 " + x + " x",
		"a nought ahead of the digest":          "3 0" + x + " x",
		"a + ahead of the digest":               "3 +" + x + " x",
		"a - ahead of the digest":               "3 -" + x + " x",
		"generation 0":                          "0 " + x + " x",
		"generation 00":                         "00 " + x + " x",
		"generation -0":                         "-0 " + x + " x",
		"generation MaxSeq + 1":                 "1000001 " + x + " x",
		"a generation of 10 digits":             "1000000000 " + x + " x",
		"the greatest of 10 digits":             "9999999999 " + x + " x",
		"a generation of 11 digits":             "10000000000 " + x + " x",
		"11 digits, of which 10 are noughts":    "00000000003 " + x + " x",
		"the greatest number":                   "9223372036854775807 " + x + " x",
		"past the greatest number":              "9223372036854775808 " + x + " x",
		"3, once round":                         "18446744073709551619 " + x + " x",
		"3, once round in 32 bits":              "4294967299 " + x + " x",
		"a generation of 400 digits":            strings.Repeat("3", 400) + " " + x + " x",
		"another digest":                        "3 1000125 x",
		"the digest of nothing":                 "3 1 x",
		"the digest and its modulus":            "3 " + decimal(bigDigest("x")+2147483647) + " x",
		"the digest less its modulus":           "3 " + decimal(bigDigest("x")-2147483647) + " x",
		"the digest of text and blank":          "3 " + decimal(bigDigest(" x")) + " x",
		"a letter in the generation":            "3a " + x + " x",
		"hexadecimal":                           "0x3 " + x + " x",
		"with _":                                "1_0 " + x + " x",
		"with a point":                          "3.0 " + x + " x",
		"digits of another script":              "\u0663 " + x + " x",
		"a tab for the first blank":             "3\t" + x + " x",
		"a tab for the second blank":            "3 " + x + "\tx",
		"a line's end behind the generation":    "3\n " + x + " x",
		"one byte more":                         "3 " + x + " xy",
		"a byte 0 more":                         "3 " + x + " x\x00",
		"a blank more":                          "3 " + x + " x ",
		"another text":                          "3 " + x + " y",
		"the other case":                        "3 " + x + " X",
		"301 bytes":                             fmt.Sprintf("3 %d %s", bigDigest(sized(301)), sized(301)),
		"3000 bytes":                            fmt.Sprintf("3 %d %s", bigDigest(sized(3000)), sized(3000)),
		"generation and digest changed about":   x + " 3 x",
		"no text":                               "3 " + x,
		"no text behind the blank":              "3 " + x + " ",
	} {
		refuseSlot(t, name, s)
		if n, text, is := readSlotByRule(s); is || n != 0 || text != "" {
			t.Errorf("%s: the rule reads %q", name, s)
		}
	}
}

// Two texts with one digest: the slot of the one is that of the other with the text changed.
func TestReadSlotOfTextsThatClash(t *testing.T) {
	const a, b = "atuwtwkco", "qybuogwlf"
	changed := strings.Replace(impl.Slot(4, a), a, b, 1)
	if n, text, is := impl.ReadSlot(changed); !is || n != 4 || text != b || changed != impl.Slot(4, b) {
		t.Fatalf("%q: %d, %q, %v", changed, n, text, is)
	}
}

func checkReadSlot(t *testing.T, s string) bool {
	t.Helper()
	n, text, is := impl.ReadSlot(s)
	wantN, wantText, want := readSlotByRule(s)
	if is != want || n != wantN || text != wantText {
		t.Fatalf("ReadSlot of %q: %d, %q, %v", s, n, text, is)
	}
	if is && impl.Slot(n, text) != s {
		t.Fatalf("Slot of %d, %q is not %q", n, text, s)
	}
	return is
}

func TestReadSlotOfAllShortTexts(t *testing.T) {
	right := 0
	for _, data := range allOver([]byte(" 012+-"), 7) {
		if checkReadSlot(t, string(data)) {
			right++
		}
	}
	// Those with an empty text alone are so short, and their generations have 1 to 4 digits.
	if want := 2 + 2*3 + 2*3*3 + 2*3*3*3; right != want {
		t.Fatal(right, want)
	}
}

func TestReadSlotOfEachFirstPart(t *testing.T) {
	for _, s := range []string{"1 1 ", impl.Slot(3, "x"), impl.Slot(1000000, " a b "), impl.Slot(77, sized(300)), impl.Slot(12, "12 1 ")} {
		for n := range len(s) {
			refuseSlot(t, "a first part", s[:n])
		}
		for n := 1; n < len(s); n++ {
			checkReadSlot(t, s[n:])
		}
	}
}

func TestReadSlotWithAnyByteChanged(t *testing.T) {
	for _, s := range []string{"1 1 ", impl.Slot(3, "x"), impl.Slot(1000000, " a b "), impl.Slot(1234, "\x00\xff 1 1 ")} {
		first := strings.IndexByte(s, ' ')
		for at := range len(s) {
			for b := range 256 {
				other := s[:at] + string([]byte{byte(b)}) + s[at+1:]
				if is := checkReadSlot(t, other); is && at >= first && other != s {
					t.Fatalf("%q is read", other)
				}
				// One byte more may be a digit of the generation, and nothing else.
				more := s[:at] + string([]byte{byte(b)}) + s[at:]
				if is := checkReadSlot(t, more); is && at > first {
					t.Fatalf("%q is read", more)
				}
			}
			if is := checkReadSlot(t, s[:at]+s[at+1:]); is && at >= first {
				t.Fatalf("%q without byte %d is read", s, at)
			}
		}
		for b := range 256 {
			refuseSlot(t, "one byte more", s+string([]byte{byte(b)}))
		}
	}
}

func TestReadSlotWithAnythingChanged(t *testing.T) {
	source := rand.New(rand.NewSource(22))
	right, wrong := 0, 0
	for range 20000 {
		text := anyBytes(source, source.Intn(4)*source.Intn(101))
		generation := anyGenerations[source.Intn(len(anyGenerations))]
		if source.Intn(2) == 0 {
			generation = 1 + source.Int63n(1000000)
		}
		digest := bigDigest(text)
		if source.Intn(4) == 0 {
			digest += source.Int63n(3) - 1
		}
		blanks := []string{" ", " ", " ", " ", " ", "", "  ", "\n"}
		s := decimal(generation) + blanks[source.Intn(8)] + decimal(digest) + blanks[source.Intn(8)] + text
		if checkReadSlot(t, s) {
			right++
		} else {
			wrong++
		}
	}
	if right < 2000 || wrong < 2000 {
		t.Fatal(right, wrong)
	}
}

// anyBytes is a text of so many bytes, blanks and digits more often than others.
func anyBytes(source *rand.Rand, n int) string {
	text := []byte{}
	for range n {
		if source.Intn(2) == 0 {
			text = append(text, " 01289"[source.Intn(6)])
		} else {
			text = append(text, byte(source.Intn(256)))
		}
	}
	return string(text)
}

func TestRootOfForms(t *testing.T) {
	for name, c := range rooted() {
		if !impl.DeviceOk(c.d) {
			t.Errorf("%s: no device", name)
		}
		if n, text := impl.Root(c.d); n != c.generation || text != c.text {
			t.Errorf("%s: %d, %q", name, n, text)
		}
		if n, text := impl.Root(impl.Barrier(c.d)); n != c.generation || text != c.text {
			t.Errorf("%s: behind a Barrier: %d, %q", name, n, text)
		}
	}
}

func TestRootWhereThereIsNone(t *testing.T) {
	for name, d := range slotDevices() {
		if n, text := impl.Root(d); (len(d.Sectors) < 2 || !impl.DeviceOk(d)) && (n != 0 || text != "") {
			t.Errorf("%s: %d, %q", name, n, text)
		}
	}
	for n := int64(1); n <= 16; n++ {
		d, _ := impl.NewDevice(n)
		if n, text := impl.Root(d); n != 0 || text != "" {
			t.Errorf("a new device: %d, %q", n, text)
		}
	}
}

func TestSwitchOfForms(t *testing.T) {
	one, two := impl.Slot(1, "one"), impl.Slot(2, "two")
	for name, c := range map[string]struct {
		d    impl.Device
		text string
		want []string
	}{
		"no slot":                   {onSectors("", ""), "one", []string{one, ""}},
		"no slot, other texts":      {onSectors("a", "b", "c"), "one", []string{one, "b", "c"}},
		"a root in 0":               {onSectors(one, "b", "c"), "two", []string{one, two, "c"}},
		"a root in 1":               {onSectors("a", one, "c"), "two", []string{two, one, "c"}},
		"two, the root in 1":        {onSectors(one, two), "x", []string{impl.Slot(3, "x"), two}},
		"two, the root in 0":        {onSectors(two, one), "x", []string{two, impl.Slot(3, "x")}},
		"alike generations":         {onSectors(impl.Slot(4, "a"), impl.Slot(4, "b")), "x", []string{impl.Slot(4, "a"), impl.Slot(5, "x")}},
		"the same text":             {onSectors(one, two), "two", []string{impl.Slot(3, "two"), two}},
		"an empty text":             {onSectors(one, two), "", []string{"3 1 ", two}},
		"300 bytes":                 {onSectors("", one), sized(300), []string{impl.Slot(2, sized(300)), one}},
		"up to MaxSeq":              {onSectors(impl.Slot(999999, "a"), "b"), "x", []string{impl.Slot(999999, "a"), impl.Slot(1000000, "x")}},
		"a slot in 2":               {onSectors("", "", impl.Slot(9, "z")), "one", []string{one, "", impl.Slot(9, "z")}},
		"a broken root":             {onSectors("9 1 x", one), "two", []string{two, one}},
		"late in other sectors":     {withLate(onSectors("", one, "c", "d"), impl.Patch{At: 2, Text: "p"}, impl.Patch{At: 3, Text: "q"}, impl.Patch{At: 2, Text: "r"}), "two", []string{two, one, "r", "q"}},
		"late in the free sector":   {withLate(onSectors("a", one), impl.Patch{At: 0, Text: "p"}), "two", []string{two, one}},
		"the root is late":          {withLate(onSectors("a", "b"), impl.Patch{At: 0, Text: one}), "two", []string{one, two}},
		"the root is late in 1":     {withLate(onSectors("a", "b"), impl.Patch{At: 1, Text: one}), "two", []string{two, one}},
		"the root is written over":  {withLate(onSectors("a", two), impl.Patch{At: 1, Text: "gone"}), "one", []string{one, "gone"}},
		"30 late in one sector":     {withLate(onSectors(one, "b", "c"), slices.Repeat([]impl.Patch{{At: 2, Text: "p"}}, 30)...), "two", []string{one, two, "p"}},
		"30 late in all sectors":    {withLate(onSectors(sectorsOf(4)...), lateOf(30, 4)...), "one", []string{one, "late 29", "late 26", "late 27"}},
		"all sectors full":          {onSectors(sized(400), sized(400), sized(400)), "one", []string{one, sized(400), sized(400)}},
		"30 late, one of them root": {withLate(onSectors(sectorsOf(4)...), append(lateOf(29, 4), impl.Patch{At: 0, Text: one})...), "two", []string{one, two, "late 26", "late 27"}},
	} {
		want := impl.Device{Sectors: c.want}
		if got, is := impl.Switch(c.d, c.text); !is || !sameDevice(got, want) {
			t.Errorf("%s: %v, %v", name, got, is)
		}
		if got := impl.Halfway(c.d, c.text, true); !sameDevice(got, want) {
			t.Errorf("%s: Halfway, kept: %v", name, got)
		}
		if got := impl.Halfway(c.d, c.text, false); !sameDevice(got, impl.Barrier(c.d)) {
			t.Errorf("%s: Halfway, not kept: %v", name, got)
		}
	}
}

func refuseSwitch(t *testing.T, name string, d impl.Device, text string, want impl.Device) {
	t.Helper()
	if got, is := impl.Switch(d, text); is || !sameDevice(got, want) {
		t.Errorf("%s: %v, %v", name, got, is)
	}
	for _, kept := range []bool{true, false} {
		if got := impl.Halfway(d, text, kept); !sameDevice(got, impl.Device{}) {
			t.Errorf("%s: Halfway, kept %v: %v", name, kept, got)
		}
	}
}

func TestSwitchAsItIs(t *testing.T) {
	for name, c := range rooted() {
		for _, size := range []int{301, 302, 400, 401, 3001} {
			refuseSwitch(t, fmt.Sprint(name, ", ", size, " bytes"), c.d, sized(size), c.d)
		}
		refuseSwitch(t, name+", 302 bytes in 151 runes", c.d, strings.Repeat("é", 151), c.d)
	}
	for name, d := range rootless() {
		for _, text := range slotTexts() {
			refuseSwitch(t, name, d, text, d)
		}
	}
	full := impl.Slot(1000000, "x")
	for name, d := range map[string]impl.Device{
		"MaxSeq in 0":             onSectors(full, ""),
		"MaxSeq in 1":             onSectors("", full, "c"),
		"MaxSeq in both":          onSectors(full, full),
		"MaxSeq late":             withLate(onSectors("", ""), impl.Patch{At: 1, Text: full}),
		"MaxSeq, and others late": withLate(onSectors(impl.Slot(4, "y"), full, "c"), impl.Patch{At: 2, Text: "p"}, impl.Patch{At: 0, Text: "q"}),
		"MaxSeq, and 30 late":     withLate(onSectors(full, "", "c"), slices.Repeat([]impl.Patch{{At: 2, Text: "p"}}, 30)...),
	} {
		for _, text := range slotTexts() {
			refuseSwitch(t, name, d, text, d)
		}
	}
}

func TestSwitchOfWrongDevices(t *testing.T) {
	for name, d := range slotDevices() {
		if deviceByRule(d) {
			continue
		}
		for _, text := range slotTexts() {
			refuseSwitch(t, name, d, text, impl.Device{})
		}
	}
}

// checkSwitch asks of one device all that promise 9 tells, and that it is as the rule has it.
func checkSwitch(t *testing.T, name string, d impl.Device, text string) bool {
	t.Helper()
	generation, old := impl.Root(d)
	if wantGeneration, wantOld, _ := rootByRule(d); generation != wantGeneration || old != wantOld {
		t.Fatalf("%s: Root: %d, %q", name, generation, old)
	}
	next, is := impl.Switch(d, text)
	if want, ok := switchByRule(d, text); is != ok || !sameDevice(next, want) {
		t.Fatalf("%s: Switch to %q: %v, %v", name, text, next, is)
	}
	kept, lost := impl.Halfway(d, text, true), impl.Halfway(d, text, false)
	if !sameDevice(kept, halfwayByRule(d, text, true)) || !sameDevice(lost, halfwayByRule(d, text, false)) {
		t.Fatalf("%s: Halfway to %q: %v, %v", name, text, kept, lost)
	}
	none := impl.Device{}
	if !is && (!sameDevice(kept, none) || !sameDevice(lost, none)) || is && (sameDevice(kept, none) || sameDevice(lost, none)) {
		t.Fatalf("%s: Switch says %v, Halfway is %v, %v", name, is, kept, lost)
	}
	if is {
		checkRoots(t, name, d, text, next, kept, lost)
	}
	return is
}

func checkRoots(t *testing.T, name string, d impl.Device, text string, next, kept, lost impl.Device) {
	t.Helper()
	generation, old := impl.Root(d)
	for _, x := range []impl.Device{next, kept} {
		if n, s := impl.Root(x); n != generation+1 || s != text || !impl.DeviceOk(x) || len(x.Late) > 0 {
			t.Fatalf("%s: to %q: the root is %d, %q", name, text, n, s)
		}
		laid := 0
		for at := range int64(len(d.Sectors)) {
			if x.Sectors[at] == impl.Slot(generation+1, text) && at < 2 {
				laid++
			} else if x.Sectors[at] != impl.Lies(d, at) {
				t.Fatalf("%s: sector %d is %q", name, at, x.Sectors[at])
			}
		}
		if laid != 1 {
			t.Fatalf("%s: laid %d times", name, laid)
		}
	}
	if n, s := impl.Root(lost); n != generation || s != old || !impl.DeviceOk(lost) || len(lost.Late) > 0 {
		t.Fatalf("%s: to %q, lost: the root is %d, %q", name, text, n, s)
	}
	for at := range int64(len(d.Sectors)) {
		if lost.Sectors[at] != impl.Lies(d, at) {
			t.Fatalf("%s: lost: sector %d is %q", name, at, lost.Sectors[at])
		}
	}
}

func TestSwitchByTheRule(t *testing.T) {
	for name, d := range slotDevices() {
		for _, text := range slotTexts() {
			checkSwitch(t, name, d, text)
		}
	}
}

// All pairs of what may lie in the two sectors, and all of what may be late there.
func TestSwitchOfAllPairs(t *testing.T) {
	texts := []string{"", "a", impl.Slot(1, ""), impl.Slot(1, "x"), impl.Slot(2, "y"), impl.Slot(9, "z"), impl.Slot(10, "z"), impl.Slot(1000000, "x"), "1000001 1 ", "+2 1 "}
	for _, first := range texts {
		for _, second := range texts {
			d := onSectors(first, second, impl.Slot(11, "third"))
			checkSwitch(t, "a pair", d, "new")
			for _, late := range texts {
				for at := range int64(3) {
					checkSwitch(t, "a pair with one late", withLate(d, impl.Patch{At: at, Text: late}), "new")
				}
			}
		}
	}
}

// Promise 9 from one to the next: the root is what the last one that was kept made it, its generation how many were.
func TestRootsOfManySwitches(t *testing.T) {
	source := rand.New(rand.NewSource(23))
	for range 60 {
		d, _ := impl.NewDevice(2 + source.Int63n(15))
		generation, root := int64(0), ""
		for step := range 60 {
			text := fmt.Sprint("root ", step)
			switch source.Intn(4) {
			case 0:
				d = impl.Halfway(d, text, false)
			case 1:
				d = impl.Halfway(d, text, true)
				generation, root = generation+1, text
			case 2:
				d, _ = impl.Switch(d, text)
				generation, root = generation+1, text
			case 3:
				at := 2 + source.Int63n(15)
				d, _ = impl.Lay(d, at, text)
			}
			if n, s := impl.Root(d); n != generation || s != root {
				t.Fatalf("%v: %d, %q, not %d, %q", d, n, s, generation, root)
			}
			// Whatever is cut later of other sectors, the root stays.
			if n, s := impl.Root(impl.Cut(d, bits(source.Int(), 30))); n != generation || s != root {
				t.Fatalf("%v, cut: %d, %q, not %d, %q", d, n, s, generation, root)
			}
		}
	}
}

// Any script of the functions of chapters 8 and 9, with slots late, lost and written over.
func TestSwitchesByAnyScript(t *testing.T) {
	source := rand.New(rand.NewSource(24))
	said := map[bool]int{}
	for range 200 {
		d, _ := impl.NewDevice(1 + source.Int63n(6))
		for step := range 40 {
			text := fmt.Sprint("step ", step)
			if source.Intn(12) == 0 {
				text = sized(299 + source.Intn(4))
			}
			at := source.Int63n(int64(len(d.Sectors)))
			switch source.Intn(6) {
			case 0:
				d, _ = impl.Lay(d, at, text)
			case 1:
				generations := []int64{1, 2, int64(step) + 1, 999998, 999999, 1000000}
				d, _ = impl.Lay(d, at, slotByRule(generations[source.Intn(6)], text))
			case 2:
				d = impl.Cut(d, bits(source.Int(), 30))
			case 3, 4:
				said[checkSwitch(t, fmt.Sprintf("%+v", d), d, text)]++
				d, _ = impl.Switch(d, text)
			case 5:
				if half := impl.Halfway(d, text, source.Intn(2) == 0); impl.DeviceOk(half) {
					d = half
				}
			}
		}
	}
	if said[true] < 500 || said[false] < 300 {
		t.Fatal(said)
	}
}

func TestSwitchOfDevicesWithAnythingChanged(t *testing.T) {
	source := rand.New(rand.NewSource(25))
	said := map[bool]int{}
	for range 2000 {
		n := 1 + source.Intn(16)
		d := impl.Device{Sectors: sectorsOf(n), Late: lateOf(source.Intn(31), n)}
		for at := range min(n, 2) {
			d.Sectors[at] = slotByRule(source.Int63n(4), "x")
		}
		d = otherDevice(source, d)
		said[checkSwitch(t, fmt.Sprintf("%+v", d), d, "new")]++
	}
	if said[true] < 300 || said[false] < 300 {
		t.Fatal(said)
	}
}

// slotAnswers are all functions of the chapter that take a device.
func slotAnswers() map[string]func(impl.Device) any {
	type changed struct {
		Device impl.Device
		Is     bool
	}
	type told struct {
		Generation int64
		Text       string
	}
	turn := func(text string) func(impl.Device) any {
		return func(d impl.Device) any { x, is := impl.Switch(d, text); return changed{x, is} }
	}
	return map[string]func(impl.Device) any{
		"Root":               func(d impl.Device) any { n, s := impl.Root(d); return told{n, s} },
		"Switch":             turn("new"),
		"Switch, refused":    turn(sized(301)),
		"Halfway, kept":      func(d impl.Device) any { return impl.Halfway(d, "new", true) },
		"Halfway, not kept":  func(d impl.Device) any { return impl.Halfway(d, "new", false) },
		"Halfway, refused":   func(d impl.Device) any { return impl.Halfway(d, sized(301), true) },
		"Switch of a Switch": func(d impl.Device) any { x, _ := impl.Switch(d, "new"); return turn("newer")(x) },
	}
}

// roomySlots tempts with slots behind each list.
func roomySlots(d impl.Device) impl.Device {
	slot := slotByRule(999, "room")
	return impl.Device{Sectors: roomy(d.Sectors, slot, slot, sized(401)), Late: roomy(d.Late, impl.Patch{At: 0, Text: slot}, impl.Patch{At: 1, Text: slot}, impl.Patch{At: -1})}
}

func TestSlotsLeaveTheirArguments(t *testing.T) {
	for name, d := range slotDevices() {
		for what, answer := range slotAnswers() {
			wide := roomySlots(d)
			lie, before := spansOf(reflect.ValueOf(wide)), withItsRoom(reflect.ValueOf(wide))
			if got := answer(wide); asText(got) != asText(answer(deviceClone(d))) {
				t.Fatalf("%s: %s hangs on the room", name, what)
			}
			if !reflect.DeepEqual(withItsRoom(reflect.ValueOf(wide)).Interface(), before.Interface()) {
				t.Fatalf("%s: %s changed its argument", name, what)
			}
			if !slices.Equal(lie, spansOf(reflect.ValueOf(wide))) {
				t.Fatalf("%s: %s moved a list of its argument", name, what)
			}
		}
	}
}

func TestSlotsGiveNewMemory(t *testing.T) {
	for name, d := range slotDevices() {
		for what, answer := range slotAnswers() {
			wide := roomySlots(d)
			first := answer(wide)
			second := answer(wide)
			if sharesMemory(first, wide, second) || sharesMemory(second, wide) {
				t.Fatalf("%s: %s shares memory", name, what)
			}
		}
	}
}

// What is written into an answer is in none of the device it was made of, nor in another answer.
func TestSlotsApartFromTheirAnswers(t *testing.T) {
	for name, d := range slotDevices() {
		before := deviceClone(d)
		next, _ := impl.Switch(d, "new")
		refused, _ := impl.Switch(d, sized(301))
		answers := []impl.Device{next, refused, impl.Halfway(d, "new", true), impl.Halfway(d, "new", false)}
		wants := []impl.Device{}
		for _, x := range answers {
			wants = append(wants, deviceClone(x))
		}
		for i, x := range answers {
			spoil(x.Sectors, "spoilt")
			spoil(x.Late, impl.Patch{At: 77, Text: "spoilt"})
			if !sameDevice(d, before) {
				t.Fatalf("%s: answer %d is the argument's memory", name, i)
			}
			for j, other := range answers[i+1:] {
				if !sameDevice(other, wants[i+1+j]) {
					t.Fatalf("%s: answers %d and %d share memory", name, i, i+1+j)
				}
			}
		}
	}
}
