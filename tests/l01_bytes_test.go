package tests

import (
	"bytes"
	"math"
	"math/rand"
	"slices"
	"strings"
	"testing"

	"loop.example/g00217/impl"
)

const most = int64(1) << 40

// numberForms has numbers in the bytes that chapter 1 asks for, worked out by hand.
var numberForms = []struct {
	n    int64
	form []byte
}{
	{0, []byte{0}},
	{1, []byte{1}},
	{127, []byte{0x7f}},
	{128, []byte{0x80, 1}},
	{129, []byte{0x81, 1}},
	{255, []byte{0xff, 1}},
	{256, []byte{0x80, 2}},
	{300, []byte{0xac, 2}},
	{3000, []byte{0xb8, 0x17}},
	{16383, []byte{0xff, 0x7f}},
	{16384, []byte{0x80, 0x80, 1}},
	{1<<21 - 1, []byte{0xff, 0xff, 0x7f}},
	{1 << 21, []byte{0x80, 0x80, 0x80, 1}},
	{1<<28 - 1, []byte{0xff, 0xff, 0xff, 0x7f}},
	{1 << 28, []byte{0x80, 0x80, 0x80, 0x80, 1}},
	{1 << 31, []byte{0x80, 0x80, 0x80, 0x80, 8}},
	{1 << 32, []byte{0x80, 0x80, 0x80, 0x80, 16}},
	{1<<35 - 1, []byte{0xff, 0xff, 0xff, 0xff, 0x7f}},
	{1 << 35, []byte{0x80, 0x80, 0x80, 0x80, 0x80, 1}},
	{most - 1, []byte{0xff, 0xff, 0xff, 0xff, 0xff, 0x1f}},
	{most, []byte{0x80, 0x80, 0x80, 0x80, 0x80, 0x20}},
}

// noNumbers are data that begin with none that Number makes.
var noNumbers = [][]byte{
	nil,
	{},
	{0x80},
	{0xff},
	{0xff, 0xff, 0xff},
	{0x80, 0x80, 0x80, 0x80, 0x80},
	{0x80, 0},
	{0x81, 0},
	{0xff, 0, 7},
	{0x80, 0x80, 0},
	{0xac, 0x82, 0},
	{0x80, 0x80, 0x80, 0x80, 0x80, 0},
	{0x80, 0x80, 0x80, 0x80, 0x80, 0xa0, 0},
	{0x81, 0x80, 0x80, 0x80, 0x80, 0x20},
	{0x80, 0x80, 0x80, 0x80, 0x80, 0x21},
	{0x80, 0x80, 0x80, 0x80, 0x80, 0x40},
	{0xff, 0xff, 0xff, 0xff, 0xff, 0x7f},
	{0x80, 0x80, 0x80, 0x80, 0x80, 0x80, 1},
	{0x80, 0x80, 0x80, 0x80, 0x80, 0x80, 0x80, 0x80, 1},
	{0x80, 0x80, 0x80, 0x80, 0x80, 0x80, 0x80, 0x80, 0x80, 1},
	// Of 64 bits these leave 1 or 5, once what is past them is dropped.
	{0x81, 0x80, 0x80, 0x80, 0x80, 0x80, 0x80, 0x80, 0x80, 2},
	{0x85, 0x80, 0x80, 0x80, 0x80, 0x80, 0x80, 0x80, 0x80, 0x80, 1},
	{0xff, 0xff, 0xff, 0xff, 0xff, 0xff, 0xff, 0xff, 0xff, 1},
	bytes.Repeat([]byte{0x80}, 100),
	bytes.Repeat([]byte{0xff}, 5000),
	append(bytes.Repeat([]byte{0x80}, 70), 1),
}

func join(parts ...[]byte) []byte {
	return bytes.Join(parts, nil)
}

func repeated(s string, n int) []string {
	list := []string{}
	for range n {
		list = append(list, s)
	}
	return list
}

func TestConstantsOfBytes(t *testing.T) {
	if impl.MaxNumber != most || impl.MaxText != 3000 || impl.MaxTexts != 200 {
		t.Fatal(int64(impl.MaxNumber), impl.MaxText, impl.MaxTexts)
	}
}

func TestNumberIsWrittenBySevenBits(t *testing.T) {
	for _, c := range numberForms {
		if got := impl.Number(c.n); !bytes.Equal(got, c.form) {
			t.Errorf("Number(%d) = %x, not %x", c.n, got, c.form)
		}
	}
}

func TestNumberOutOfRangeIsNothing(t *testing.T) {
	for _, n := range []int64{-1, -2, -127, -128, -300, -most, math.MinInt64, most + 1, most + 128, 2 * most, 1 << 42, 1 << 62, math.MaxInt64} {
		if got := impl.Number(n); len(got) != 0 {
			t.Errorf("Number(%d) = %x", n, got)
		}
	}
}

func TestReadNumberOfTheForms(t *testing.T) {
	for _, c := range numberForms {
		for _, behind := range [][]byte{{}, {0}, {1}, {0x80}, {0xff, 0xff}, bytes.Repeat([]byte{7}, 50)} {
			n, size := impl.ReadNumber(join(c.form, behind))
			if n != c.n || size != int64(len(c.form)) {
				t.Errorf("%x, behind it %x: %d, %d", c.form, behind, n, size)
			}
		}
	}
}

func TestReadNumberOfNumber(t *testing.T) {
	check := func(n int64) {
		form := impl.Number(n)
		if got, size := impl.ReadNumber(form); got != n || size != int64(len(form)) || size == 0 {
			t.Fatalf("%d: %x: %d, %d", n, form, got, size)
		}
	}
	for n := int64(0); n < 70000; n++ {
		check(n)
	}
	for bit := 0; bit <= 40; bit++ {
		for near := int64(-3); near <= 3; near++ {
			if n := int64(1)<<bit + near; n >= 0 && n <= most {
				check(n)
			}
		}
	}
	for n := int64(0); n <= most; n += 104729 * 1009 {
		check(n)
	}
}

func TestReadNumberRefuses(t *testing.T) {
	for _, data := range noNumbers {
		if n, size := impl.ReadNumber(data); n != 0 || size != 0 {
			t.Errorf("%x: %d, %d", data, n, size)
		}
	}
}

func TestReadNumberOfEachBeginning(t *testing.T) {
	for _, c := range numberForms {
		for i := range c.form {
			if n, size := impl.ReadNumber(c.form[:i]); n != 0 || size != 0 {
				t.Errorf("%x of %x: %d, %d", c.form[:i], c.form, n, size)
			}
		}
	}
}

// All data of two bytes: a number is read just where Number makes one of the bytes, or both.
func TestReadNumberOfAllPairs(t *testing.T) {
	made := map[string]int64{}
	for n := int64(0); n < 1<<14; n++ {
		made[string(impl.Number(n))] = n
	}
	for i := range 1 << 16 {
		data := []byte{byte(i >> 8), byte(i)}
		want, size := int64(0), int64(0)
		for k := 1; k <= 2; k++ {
			if n, ok := made[string(data[:k])]; ok {
				want, size = n, int64(k)
			}
		}
		if n, k := impl.ReadNumber(data); n != want || k != size {
			t.Fatalf("%x: %d, %d, not %d, %d", data, n, k, want, size)
		}
	}
}

func TestTextIsItsSizeAndItsBytes(t *testing.T) {
	for _, c := range []struct {
		s    string
		size []byte
	}{
		{"", []byte{0}},
		{"a", []byte{1}},
		{"ab", []byte{2}},
		{"\x00\xff\x80\n", []byte{4}},
		{"äöü", []byte{6}},
		{strings.Repeat("x", 127), []byte{0x7f}},
		{strings.Repeat("x", 128), []byte{0x80, 1}},
		{strings.Repeat("\x80", 300), []byte{0xac, 2}},
		{strings.Repeat("z", 2999), []byte{0xb7, 0x17}},
		{strings.Repeat("z", 3000), []byte{0xb8, 0x17}},
	} {
		form := join(c.size, []byte(c.s))
		if got := impl.Text(c.s); !bytes.Equal(got, form) {
			t.Errorf("Text of %d bytes: %x", len(c.s), got)
		}
		for _, behind := range []string{"", "q", "\x00", "\xff\xff"} {
			s, size := impl.ReadText(join(form, []byte(behind)))
			if s != c.s || size != int64(len(form)) {
				t.Errorf("ReadText of %d bytes: %d bytes, %d", len(c.s), len(s), size)
			}
		}
	}
}

func TestTextTooLongIsNothing(t *testing.T) {
	for _, n := range []int{3001, 3002, 3128, 16384, 100000} {
		if got := impl.Text(strings.Repeat("x", n)); len(got) != 0 {
			t.Errorf("Text of %d bytes has %d", n, len(got))
		}
	}
}

func TestReadTextRefuses(t *testing.T) {
	long := strings.Repeat("x", 20000)
	wrong := [][]byte{
		{1},
		{2, 'a'},
		{0x80, 1, 'a'},
		// Sizes in more bytes than Number writes them in.
		{0x80, 0},
		{0x82, 0, 'a', 'b'},
		{0x82, 0x80, 0, 'a', 'b'},
		// Sizes past MaxText, with as many bytes there, and with none.
		join([]byte{0xb9, 0x17}, []byte(long[:3001])),
		join([]byte{0xba, 0x17}, []byte(long)),
		join([]byte{0x80, 0x80, 1}, []byte(long)),
		{0xb9, 0x17},
		join(impl.Number(most), []byte(long)),
		impl.Number(most),
		join(impl.Number(1<<32+1), []byte(long)),
		// 3000 bytes, of which the last one is missing.
		join([]byte{0xb8, 0x17}, []byte(long[:2999])),
	}
	for _, data := range append(wrong, noNumbers...) {
		if s, size := impl.ReadText(data); s != "" || size != 0 {
			t.Errorf("%x: %q, %d", data[:min(len(data), 20)], s, size)
		}
	}
}

func TestReadTextOfEachBeginning(t *testing.T) {
	for _, s := range []string{"a", "stones", strings.Repeat("s", 200), strings.Repeat("s", 3000)} {
		form := impl.Text(s)
		for i := range form {
			if got, size := impl.ReadText(form[:i]); got != "" || size != 0 {
				t.Fatalf("%d of %d bytes: %q, %d", i, len(form), got, size)
			}
		}
	}
}

func TestTextsAreTheirCountAndEach(t *testing.T) {
	for _, c := range []struct {
		list []string
		form []byte
	}{
		{nil, []byte{0}},
		{[]string{}, []byte{0}},
		{[]string{""}, []byte{1, 0}},
		{[]string{"a"}, []byte{1, 1, 'a'}},
		{[]string{"", ""}, []byte{2, 0, 0}},
		{[]string{"x", "", "yz"}, []byte{3, 1, 'x', 0, 2, 'y', 'z'}},
		{[]string{"\xff\x00"}, []byte{1, 2, 0xff, 0}},
		{repeated("", 127), join([]byte{0x7f}, make([]byte, 127))},
		{repeated("", 128), join([]byte{0x80, 1}, make([]byte, 128))},
		{repeated("", 200), join([]byte{0xc8, 1}, make([]byte, 200))},
		{repeated("b", 200), join([]byte{0xc8, 1}, bytes.Repeat([]byte{1, 'b'}, 200))},
	} {
		if got := impl.Texts(c.list); !bytes.Equal(got, c.form) {
			t.Errorf("Texts(%q) = %x", c.list, got)
		}
		if got, ok := impl.ReadTexts(c.form); !ok || !slices.Equal(got, c.list) {
			t.Errorf("ReadTexts(%x) = %q, %v", c.form, got, ok)
		}
	}
}

func TestTextsRefuse(t *testing.T) {
	long := strings.Repeat("x", 3001)
	for _, list := range [][]string{
		repeated("", 201),
		repeated("a", 201),
		repeated("a", 328),
		repeated("a", 16384),
		{long},
		{long, "a"},
		{"a", long},
		{"a", long, "b"},
		append(repeated("a", 199), long),
		append(repeated("a", 200), long),
	} {
		if got := impl.Texts(list); len(got) != 0 {
			t.Errorf("Texts of %d: %d bytes", len(list), len(got))
		}
	}
}

func TestReadTextsOfTexts(t *testing.T) {
	long := strings.Repeat("l", 3000)
	lists := [][]string{
		{long},
		{long, ""},
		{"", long, "a"},
		repeated(long, 200),
		append(repeated("k", 199), long),
		{"no", "two", "that", "part"},
		{"\x00", "\x01\x02", "\x80", "\xff\xff\xff"},
	}
	source := rand.New(rand.NewSource(1))
	for range 300 {
		list := []string{}
		for range source.Intn(201) {
			s := make([]byte, source.Intn(1<<source.Intn(9)))
			source.Read(s)
			list = append(list, string(s))
		}
		lists = append(lists, list)
	}
	for _, list := range lists {
		data := impl.Texts(list)
		if got, ok := impl.ReadTexts(data); !ok || !slices.Equal(got, list) {
			t.Fatalf("%d texts: %d, %v", len(list), len(got), ok)
		}
	}
}

func TestReadTextsRefuse(t *testing.T) {
	wrong := [][]byte{
		// A byte behind.
		{0, 0},
		{0, 7},
		{1, 0, 0},
		{1, 1, 'a', 'b'},
		join(impl.Texts(repeated("", 200)), []byte{0}),
		// Counts greater than what follows.
		{1},
		{2, 0},
		{3, 1, 'x', 0},
		{0xc8, 1},
		join([]byte{0xc8, 1}, make([]byte, 199)),
		// Counts past MaxTexts, with as many texts there, and with none.
		join([]byte{0xc9, 1}, make([]byte, 201)),
		join([]byte{0x80, 2}, make([]byte, 256)),
		{0xc9, 1},
		impl.Number(most),
		join(impl.Number(1<<32), []byte{}),
		join(impl.Number(1<<32+1), []byte{1, 'a'}),
		// Counts and sizes in more bytes than Number writes them in.
		{0x80, 0},
		{0x81, 0, 1, 'a'},
		{1, 0x80, 0},
		{1, 0x81, 0, 'a'},
		{2, 0, 0x81, 0x80, 0, 'a'},
		// Texts that end too early, or are too long.
		{1, 2, 'a'},
		{2, 1, 'a', 2, 'b'},
		{2, 3, 'a', 'b'},
		{1, 0x80},
		join([]byte{1, 0xb9, 0x17}, make([]byte, 3001)),
		join([]byte{2, 0, 0xb9, 0x17}, make([]byte, 3001)),
		join([]byte{1}, impl.Number(most), []byte("abc")),
		join([]byte{1, 0x81, 0x80, 0x80, 0x80, 0x80, 0x20}, []byte("abc")),
	}
	for _, data := range append(wrong, noNumbers...) {
		if list, ok := impl.ReadTexts(data); ok || len(list) != 0 {
			t.Errorf("%x: %q, %v", data[:min(len(data), 20)], list, ok)
		}
	}
}

func TestReadTextsOfEachBeginning(t *testing.T) {
	data := impl.Texts([]string{"cairn", "", strings.Repeat("s", 130), "end"})
	for i := range data {
		if list, ok := impl.ReadTexts(data[:i]); ok || len(list) != 0 {
			t.Errorf("%d of %d bytes: %q, %v", i, len(data), list, ok)
		}
	}
}

// textsOver has every list over these bytes whose data are at most room bytes long, by its data.
func textsOver(letters []byte, room int) map[string][]string {
	texts := allOver(letters, room-2)
	made := map[string][]string{}
	var grow func(list []string)
	grow = func(list []string) {
		data := impl.Texts(list)
		if len(data) > room {
			return
		}
		made[string(data)] = slices.Clone(list)
		for _, s := range texts {
			if len(data)+1+len(s) <= room {
				grow(append(slices.Clone(list), string(s)))
			}
		}
	}
	grow(nil)
	return made
}

// allOver has all data over these bytes that are at most room bytes long.
func allOver(letters []byte, room int) [][]byte {
	all := [][]byte{{}}
	for from := 0; room > 0; room-- {
		to := len(all)
		for _, data := range all[from:to] {
			for _, b := range letters {
				all = append(all, join(data, []byte{b}))
			}
		}
		from = to
	}
	return all
}

// All short data over a few bytes: texts are read just where Texts makes the data.
func TestReadTextsOfAllShortData(t *testing.T) {
	letters := []byte{0, 1, 2, 3, 4, 0x80, 0x81, 'a'}
	made := textsOver(letters, 5)
	read := 0
	for _, data := range allOver(letters, 5) {
		want, is := made[string(data)]
		list, ok := impl.ReadTexts(data)
		if ok != is || !slices.Equal(list, want) {
			t.Fatalf("%x: %q, %v, not %q, %v", data, list, ok, want, is)
		}
		if ok {
			read++
		}
	}
	if read != len(made) {
		t.Fatal(read, len(made))
	}
}

// Whatever data are given, what is read is what writes them.
func TestReadersOfAnyData(t *testing.T) {
	source := rand.New(rand.NewSource(2))
	for range 100000 {
		data := make([]byte, source.Intn(12))
		for i := range data {
			data[i] = byte(source.Intn(256) >> source.Intn(8))
			if source.Intn(4) == 0 {
				data[i] |= 0x80
			}
		}
		if n, size := impl.ReadNumber(data); size != 0 && !bytes.Equal(impl.Number(n), data[:size]) || size == 0 && n != 0 {
			t.Fatalf("ReadNumber(%x) = %d, %d", data, n, size)
		}
		if s, size := impl.ReadText(data); size != 0 && !bytes.Equal(impl.Text(s), data[:size]) || size == 0 && s != "" {
			t.Fatalf("ReadText(%x) = %q, %d", data, s, size)
		}
		if list, ok := impl.ReadTexts(data); ok && !bytes.Equal(impl.Texts(list), data) || !ok && len(list) != 0 {
			t.Fatalf("ReadTexts(%x) = %q, %v", data, list, ok)
		}
	}
}

// What stands in the spare room behind the data is not read.
func TestReadersKeepOutOfTheSpareRoom(t *testing.T) {
	if n, size := impl.ReadNumber([]byte{0xac, 2}[:1]); n != 0 || size != 0 {
		t.Error(n, size)
	}
	if s, size := impl.ReadText([]byte("\x03abc")[:3]); s != "" || size != 0 {
		t.Error(s, size)
	}
	for i := range 4 {
		if list, ok := impl.ReadTexts([]byte{1, 2, 'a', 'b'}[:i]); ok || len(list) != 0 {
			t.Error(i, list)
		}
	}
	if list, ok := impl.ReadTexts([]byte{1, 1, 'a', 'b'}[:3]); !ok || !slices.Equal(list, []string{"a"}) {
		t.Error(list, ok)
	}
}

// argumentsOfReaders are data that are read, in part or not at all.
func argumentsOfReaders() [][]byte {
	return append([][]byte{
		impl.Number(300),
		impl.Number(most),
		impl.Text("stones"),
		impl.Text(strings.Repeat("s", 3000)),
		impl.Texts(nil),
		impl.Texts([]string{"x", "", "yz"}),
		impl.Texts(repeated("abc", 200)),
		{3, 1, 'x', 0},
		{1, 1, 'a', 'b'},
	}, noNumbers...)
}

func TestReadersLeaveTheirArgument(t *testing.T) {
	for _, data := range argumentsOfReaders() {
		room := join(data, bytes.Repeat([]byte{0xee}, 40))
		before := bytes.Clone(room)
		argument := room[:len(data)]
		impl.ReadNumber(argument)
		impl.ReadText(argument)
		impl.ReadTexts(argument)
		if !bytes.Equal(room, before) {
			t.Errorf("%x is %x now", before, room)
		}
	}
}

func TestTextsLeaveTheirArgument(t *testing.T) {
	for _, list := range [][]string{{}, {"x", "", "yz"}, repeated("abc", 200), repeated("abc", 201), {"a", strings.Repeat("x", 3001)}} {
		room := append(slices.Clone(list), repeated("behind", 10)...)
		before := slices.Clone(room)
		impl.Texts(room[:len(list)])
		if !slices.Equal(room, before) {
			t.Errorf("%d texts were changed", len(list))
		}
	}
}

func TestReadTextsShareNothingWithTheData(t *testing.T) {
	data := impl.Texts([]string{"abc", "", "stones"})
	list, _ := impl.ReadTexts(data)
	text := impl.Text("cairn")
	s, _ := impl.ReadText(text)
	clear(data)
	clear(text)
	if !slices.Equal(list, []string{"abc", "", "stones"}) || s != "cairn" {
		t.Fatal(list, s)
	}
}

// spoil overwrites an answer, its spare room too.
func spoil[T any](list []T, with T) {
	list = list[:cap(list)]
	for i := range list {
		list[i] = with
	}
}

func TestWritersGiveNewMemory(t *testing.T) {
	s, list := strings.Repeat("ab", 3), []string{strings.Repeat("cd", 3), "e"}
	for name, write := range map[string]func() []byte{
		"Number":              func() []byte { return impl.Number(300) },
		"Number of 0":         func() []byte { return impl.Number(0) },
		"Number, refused":     func() []byte { return impl.Number(-1) },
		"Text":                func() []byte { return impl.Text(s) },
		"Text, empty":         func() []byte { return impl.Text("") },
		"Text, refused":       func() []byte { return impl.Text(strings.Repeat("x", 3001)) },
		"Texts":               func() []byte { return impl.Texts(list) },
		"Texts, none":         func() []byte { return impl.Texts(nil) },
		"Texts, refused":      func() []byte { return impl.Texts(repeated("", 201)) },
		"Texts, one too long": func() []byte { return impl.Texts([]string{"a", strings.Repeat("x", 3001)}) },
	} {
		first := write()
		want := bytes.Clone(first)
		second := write()
		spoil(first, 0xee)
		if third := write(); !bytes.Equal(second, want) || !bytes.Equal(third, want) {
			t.Errorf("%s: two answers share memory", name)
		}
	}
	if s != "ababab" || list[0] != "cdcdcd" || list[1] != "e" {
		t.Error("an argument was changed by its answer", s, list)
	}
}

func TestReadTextsGiveNewMemory(t *testing.T) {
	for _, data := range [][]byte{{0}, {3, 1, 'x', 0, 2, 'y', 'z'}, {1, 2}} {
		first, _ := impl.ReadTexts(data)
		want := slices.Clone(first)
		second, _ := impl.ReadTexts(data)
		spoil(first, "spoilt")
		third, _ := impl.ReadTexts(data)
		if !slices.Equal(second, want) || !slices.Equal(third, want) {
			t.Errorf("%x: two answers share memory", data)
		}
	}
}
