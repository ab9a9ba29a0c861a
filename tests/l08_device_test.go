package tests

import (
	"fmt"
	"math"
	"math/rand"
	"reflect"
	"slices"
	"strings"
	"testing"

	"loop.example/g00217/impl"
)

// sized is a text of so many bytes.
func sized(n int) string {
	return strings.Repeat("s", n)
}

// sectorsOf are so many sectors, no two alike.
func sectorsOf(n int) []string {
	sectors := []string{}
	for i := range n {
		sectors = append(sectors, fmt.Sprint("was ", i))
	}
	return sectors
}

// lateOf are so many Patches of n sectors in turn, no two alike.
func lateOf(count int, n int) []impl.Patch {
	late := []impl.Patch{}
	for i := range count {
		late = append(late, impl.Patch{At: int64(i % n), Text: fmt.Sprint("late ", i)})
	}
	return late
}

func deviceClone(d impl.Device) impl.Device {
	return impl.Device{Sectors: slices.Clip(slices.Clone(d.Sectors)), Late: slices.Clip(slices.Clone(d.Late))}
}

func sameDevice(a impl.Device, b impl.Device) bool {
	return slices.Equal(a.Sectors, b.Sectors) && slices.Equal(a.Late, b.Late)
}

// deviceByRule asks what chapter 8 asks of a device.
func deviceByRule(d impl.Device) bool {
	if len(d.Sectors) == 0 || len(d.Sectors) > 16 || len(d.Late) > 30 {
		return false
	}
	return !slices.ContainsFunc(d.Sectors, func(s string) bool { return len(s) > 400 }) &&
		!slices.ContainsFunc(d.Late, func(p impl.Patch) bool {
			return p.At < 0 || p.At >= int64(len(d.Sectors)) || len(p.Text) > 400
		})
}

func layByRule(d impl.Device, at int64, text string) (impl.Device, bool) {
	if !deviceByRule(d) {
		return impl.Device{}, false
	}
	next := impl.Device{Sectors: d.Sectors, Late: slices.Concat(d.Late, []impl.Patch{{At: at, Text: text}})}
	if !deviceByRule(next) {
		return d, false
	}
	return next, true
}

// lastOf looks from the end on for a Patch that counts at a sector; what the sector has where there is none.
func lastOf(d impl.Device, at int64, counts func(int) bool) string {
	for i := len(d.Late) - 1; i >= 0; i-- {
		if d.Late[i].At == at && counts(i) {
			return d.Late[i].Text
		}
	}
	return d.Sectors[at]
}

func liesByRule(d impl.Device, at int64) string {
	if !deviceByRule(d) || at < 0 || at >= int64(len(d.Sectors)) {
		return ""
	}
	return lastOf(d, at, func(int) bool { return true })
}

func cutByRule(d impl.Device, kept []bool) impl.Device {
	if !deviceByRule(d) {
		return impl.Device{}
	}
	next := impl.Device{}
	for at := range int64(len(d.Sectors)) {
		next.Sectors = append(next.Sectors, lastOf(d, at, func(i int) bool { return i < len(kept) && kept[i] }))
	}
	return next
}

func barrierByRule(d impl.Device) impl.Device {
	return cutByRule(d, slices.Repeat([]bool{true}, len(d.Late)))
}

// pile has several Patches of one sector, one of another between, and a sector without any.
func pile() impl.Device {
	return impl.Device{
		Sectors: []string{"a", "b", "c", ""},
		Late:    []impl.Patch{{At: 1, Text: "b1"}, {At: 0, Text: "a1"}, {At: 1, Text: "b2"}, {At: 3, Text: "d1"}, {At: 1, Text: "b3"}, {At: 0}},
	}
}

func rightDevices() map[string]impl.Device {
	right := map[string]impl.Device{
		"1 empty sector":             {Sectors: []string{""}},
		"1 sector":                   {Sectors: sectorsOf(1), Late: []impl.Patch{}},
		"15 sectors":                 {Sectors: sectorsOf(15)},
		"16 sectors":                 {Sectors: sectorsOf(16)},
		"a sector of 400 bytes":      {Sectors: []string{"", sized(400), "x"}},
		"all sectors of 400 bytes":   {Sectors: slices.Repeat([]string{sized(400)}, 16)},
		"29 late":                    {Sectors: sectorsOf(3), Late: lateOf(29, 3)},
		"30 late":                    {Sectors: sectorsOf(16), Late: lateOf(30, 16)},
		"30 late at 1 sector":        {Sectors: sectorsOf(1), Late: lateOf(30, 1)},
		"a Patch at 0":               {Sectors: sectorsOf(3), Late: []impl.Patch{{At: 0, Text: "x"}}},
		"a Patch at the last sector": {Sectors: sectorsOf(3), Late: []impl.Patch{{At: 2, Text: "x"}}},
		"a Patch at 15":              {Sectors: sectorsOf(16), Late: []impl.Patch{{At: 15, Text: "x"}}},
		"an empty Patch":             {Sectors: sectorsOf(3), Late: []impl.Patch{{At: 1}}},
		"a Patch of 400 bytes":       {Sectors: sectorsOf(3), Late: []impl.Patch{{At: 1, Text: sized(400)}}},
		"30 Patches of 400 bytes":    {Sectors: sectorsOf(3), Late: slices.Repeat([]impl.Patch{{At: 2, Text: sized(400)}}, 30)},
		"alike Patches":              {Sectors: sectorsOf(2), Late: []impl.Patch{{At: 1, Text: "x"}, {At: 1, Text: "x"}}},
		"a Patch as its sector is":   {Sectors: []string{"x"}, Late: []impl.Patch{{At: 0, Text: "x"}}},
		"any bytes":                  {Sectors: []string{"\x00\xff\n", "é"}, Late: []impl.Patch{{At: 0, Text: "\xfe\x00"}}},
		"a pile":                     pile(),
	}
	return right
}

func wrongDevices() map[string]impl.Device {
	wrong := map[string]impl.Device{
		"zero":                           {},
		"no sectors":                     {Sectors: []string{}, Late: []impl.Patch{}},
		"no sectors and a Patch":         {Late: []impl.Patch{{At: 0, Text: "x"}}},
		"17 sectors":                     {Sectors: sectorsOf(17)},
		"17 empty sectors":               {Sectors: make([]string, 17)},
		"1000 sectors":                   {Sectors: make([]string, 1000), Late: []impl.Patch{{At: 999}}},
		"the first sector of 401 bytes":  {Sectors: []string{sized(401), "", ""}},
		"the last sector of 401 bytes":   {Sectors: []string{"", "", sized(401)}},
		"401 bytes beneath a Patch":      {Sectors: []string{sized(401)}, Late: []impl.Patch{{At: 0, Text: "x"}}},
		"a sector of 100000 bytes":       {Sectors: []string{sized(100000)}},
		"31 late":                        {Sectors: sectorsOf(3), Late: lateOf(31, 3)},
		"31 alike late":                  {Sectors: sectorsOf(1), Late: make([]impl.Patch, 31)},
		"1000 late":                      {Sectors: sectorsOf(16), Late: lateOf(1000, 16)},
		"a Patch of 401 bytes":           {Sectors: sectorsOf(3), Late: []impl.Patch{{At: 1, Text: sized(401)}}},
		"the last Patch of 401 bytes":    {Sectors: sectorsOf(3), Late: append(lateOf(29, 3), impl.Patch{At: 1, Text: sized(401)})},
		"a Patch of 401 bytes, and anew": {Sectors: sectorsOf(1), Late: []impl.Patch{{At: 0, Text: sized(401)}, {At: 0, Text: "x"}}},
		"1 sector and a Patch at 1":      {Sectors: sectorsOf(1), Late: []impl.Patch{{At: 1}}},
		"16 sectors and a Patch at 16":   {Sectors: sectorsOf(16), Late: []impl.Patch{{At: 16}}},
		"all of it":                      {Sectors: slices.Repeat([]string{sized(401)}, 17), Late: slices.Repeat([]impl.Patch{{At: -1, Text: sized(401)}}, 31)},
	}
	for _, at := range []int64{math.MinInt64, math.MinInt64 + 1, -1 << 32, -3, -1, 3, 4, 1 << 32, 1<<32 + 1, math.MaxInt64} {
		wrong[fmt.Sprint("a Patch at ", at)] = impl.Device{Sectors: sectorsOf(3), Late: []impl.Patch{{At: at, Text: "x"}}}
		wrong[fmt.Sprint("the last Patch at ", at)] = impl.Device{Sectors: sectorsOf(3), Late: append(lateOf(29, 3), impl.Patch{At: at})}
		wrong[fmt.Sprint("the first Patch at ", at)] = impl.Device{Sectors: sectorsOf(3), Late: append([]impl.Patch{{At: at}}, lateOf(29, 3)...)}
	}
	return wrong
}

// anyPlaces are numbers of sectors, and numbers of none.
var anyPlaces = []int64{math.MinInt64, math.MinInt64 + 1, -1 << 32, -2, -1, 0, 1, 2, 3, 14, 15, 16, 17, 400, 1 << 32, 1<<32 + 1, math.MaxInt64 - 1, math.MaxInt64}

func someTexts() []string {
	return []string{"", "x", "\x00\xff", sized(399), sized(400), sized(401), sized(3001)}
}

// keptOf are lists of as many as n, of fewer, of more and of none.
func keptOf(n int) [][]bool {
	lists := [][]bool{nil, {}, make([]bool, n), slices.Repeat([]bool{true}, n), make([]bool, n+9), slices.Repeat([]bool{true}, n+9)}
	for i := range n {
		one, but := make([]bool, n), slices.Repeat([]bool{true}, n)
		one[i], but[i] = true, false
		lists = append(lists, one, but, slices.Repeat([]bool{true}, i), one[:i+1], append(but, true))
	}
	return lists
}

func TestConstantsOfDevices(t *testing.T) {
	if impl.MaxSectors != 16 || impl.MaxSector != 400 || impl.MaxLate != 30 {
		t.Fatal(impl.MaxSectors, impl.MaxSector, impl.MaxLate)
	}
}

func TestDeviceOkOfRightDevices(t *testing.T) {
	for name, d := range rightDevices() {
		if !impl.DeviceOk(d) || !deviceByRule(d) {
			t.Error(name)
		}
	}
}

func TestDeviceOkOfWrongDevices(t *testing.T) {
	for name, d := range wrongDevices() {
		if impl.DeviceOk(d) || deviceByRule(d) {
			t.Error(name)
		}
	}
}

// What lies behind a list is none of it, right or wrong.
func TestDeviceOkKeepsOutOfTheSpareRoom(t *testing.T) {
	sectors := append(sectorsOf(16), sized(401))
	late := append(lateOf(30, 16), impl.Patch{At: -1, Text: sized(401)})
	if !impl.DeviceOk(impl.Device{Sectors: sectors[:16], Late: late[:30]}) {
		t.Error("what is wrong in the room is asked for")
	}
	if impl.DeviceOk(impl.Device{Sectors: sectors[:2], Late: late[:3]}) {
		t.Error("a Patch is at a sector in the room")
	}
	if impl.DeviceOk(impl.Device{Sectors: sectors[:0]}) {
		t.Error("all sectors are in the room")
	}
}

func TestWrongDevicesAreAnsweredByNothing(t *testing.T) {
	for name, d := range wrongDevices() {
		for _, at := range anyPlaces {
			for _, text := range []string{"", "x", sized(401)} {
				if got, is := impl.Lay(d, at, text); is || !sameDevice(got, impl.Device{}) {
					t.Errorf("%s: Lay at %d: %v, %v", name, at, got, is)
				}
			}
			if got := impl.Lies(d, at); got != "" {
				t.Errorf("%s: Lies at %d: %q", name, at, got)
			}
		}
		if got := impl.Barrier(d); !sameDevice(got, impl.Device{}) {
			t.Errorf("%s: Barrier: %v", name, got)
		}
		for _, kept := range [][]bool{nil, {}, {true}, {false}, make([]bool, 31), slices.Repeat([]bool{true}, 30), slices.Repeat([]bool{true}, 2000)} {
			if got := impl.Cut(d, kept); !sameDevice(got, impl.Device{}) {
				t.Errorf("%s: Cut by %v: %v", name, kept, got)
			}
		}
	}
}

func TestNewDeviceOfEachSize(t *testing.T) {
	for n := int64(1); n <= 16; n++ {
		d, is := impl.NewDevice(n)
		if !is || !impl.DeviceOk(d) || !sameDevice(d, impl.Device{Sectors: make([]string, n)}) {
			t.Errorf("%d: %v, %v", n, d, is)
		}
	}
}

func TestNewDeviceOutOfRange(t *testing.T) {
	for _, n := range []int64{math.MinInt64, math.MinInt64 + 1, -1 << 32, -16, -1, 0, 17, 18, 30, 400, 1 << 32, 1<<32 + 1, math.MaxInt64 - 1, math.MaxInt64} {
		if d, is := impl.NewDevice(n); is || !sameDevice(d, impl.Device{}) {
			t.Errorf("%d: %v, %v", n, d, is)
		}
	}
}

func TestLayOfForms(t *testing.T) {
	three := impl.Device{Sectors: []string{"a", "b", "c"}, Late: []impl.Patch{{At: 1, Text: "x"}}}
	for name, c := range map[string]struct {
		at   int64
		text string
		is   bool
	}{
		"at 0":                             {0, "y", true},
		"at the same sector":               {1, "y", true},
		"what is there already":            {1, "x", true},
		"what the sector has":              {0, "a", true},
		"at the last sector":               {2, "y", true},
		"behind it":                        {3, "y", false},
		"at -1":                            {-1, "y", false},
		"at the least number":              {math.MinInt64, "y", false},
		"at the greatest number":           {math.MaxInt64, "y", false},
		"at 1 and 2 to the 32":             {1<<32 + 1, "y", false},
		"of 0 bytes":                       {1, "", true},
		"of any bytes":                     {1, "\x00\xff\n", true},
		"of 399 bytes":                     {1, sized(399), true},
		"of 400 bytes":                     {1, sized(400), true},
		"of 400 bytes in 200 runes":        {1, strings.Repeat("é", 200), true},
		"of 401 bytes":                     {1, sized(401), false},
		"of 402 bytes in 201 runes":        {1, strings.Repeat("é", 201), false},
		"of 100000 bytes":                  {1, sized(100000), false},
		"of 401 bytes, behind":             {3, sized(401), false},
		"of 400 bytes, at the last sector": {2, sized(400), true},
		"of 0 bytes, behind the last":      {3, "", false},
		"of 0 bytes, at the least number":  {math.MinInt64, "", false},
		"at a number whose int32 is 0":     {1 << 32, "y", false},
		"at a number whose int32 is -1":    {1<<32 - 1, "y", false},
		"at a number whose int8 is 1":      {257, "y", false},
		"at the most sectors there may be": {16, "y", false},
	} {
		want := impl.Device{Sectors: three.Sectors, Late: []impl.Patch{{At: 1, Text: "x"}}}
		if c.is {
			want.Late = []impl.Patch{{At: 1, Text: "x"}, {At: c.at, Text: c.text}}
		}
		if got, is := impl.Lay(three, c.at, c.text); is != c.is || !sameDevice(got, want) {
			t.Errorf("%s: %v, %v", name, got, is)
		}
	}
}

func TestLayWhereThereIsRoom(t *testing.T) {
	for _, n := range []int{1, 3, 16} {
		d := impl.Device{Sectors: sectorsOf(n), Late: lateOf(29, n)}
		next, is := impl.Lay(d, 0, "the last one")
		if want := append(lateOf(29, n), impl.Patch{At: 0, Text: "the last one"}); !is || !impl.DeviceOk(next) || !slices.Equal(next.Sectors, d.Sectors) || !slices.Equal(next.Late, want) {
			t.Fatalf("29 late: %v, %v", next, is)
		}
		for _, at := range []int64{0, int64(n) - 1, int64(n), -1} {
			for _, text := range []string{"", "no room", sized(400), sized(401)} {
				if got, is := impl.Lay(next, at, text); is || !sameDevice(got, next) {
					t.Fatalf("30 late: %v, %v", got, is)
				}
			}
		}
		// Behind a Barrier, or a Cut of whatever, there is room once more.
		for _, empty := range []impl.Device{impl.Barrier(next), impl.Cut(next, nil)} {
			if got, is := impl.Lay(empty, 0, "room"); !is || !slices.Equal(got.Late, []impl.Patch{{At: 0, Text: "room"}}) {
				t.Fatalf("none late: %v, %v", got, is)
			}
		}
	}
}

func TestLayFromTheFirstOn(t *testing.T) {
	d, _ := impl.NewDevice(4)
	late := []impl.Patch{}
	for i := range 40 {
		patch := impl.Patch{At: int64(i * 7 % 4), Text: sized(i * 10)}
		next, is := impl.Lay(d, patch.At, patch.Text)
		if i < 30 {
			late = append(late, patch)
		}
		if is != (i < 30) || !sameDevice(next, impl.Device{Sectors: make([]string, 4), Late: late}) {
			t.Fatalf("%d: %v, %v", i, next, is)
		}
		d = next
	}
}

func TestLiesOfForms(t *testing.T) {
	for name, c := range map[string]struct {
		late []impl.Patch
		want [3]string
	}{
		"no Late":                           {nil, [3]string{"a", "b", ""}},
		"one":                               {[]impl.Patch{{At: 1, Text: "x"}}, [3]string{"a", "x", ""}},
		"one at the first sector":           {[]impl.Patch{{At: 0, Text: "x"}}, [3]string{"x", "b", ""}},
		"one at the last sector":            {[]impl.Patch{{At: 2, Text: "x"}}, [3]string{"a", "b", "x"}},
		"an empty one":                      {[]impl.Patch{{At: 1}}, [3]string{"a", "", ""}},
		"two":                               {[]impl.Patch{{At: 1, Text: "x"}, {At: 1, Text: "y"}}, [3]string{"a", "y", ""}},
		"two, in the other order":           {[]impl.Patch{{At: 1, Text: "y"}, {At: 1, Text: "x"}}, [3]string{"a", "x", ""}},
		"three, the last one shortest":      {[]impl.Patch{{At: 1, Text: "xyz"}, {At: 1, Text: "xy"}, {At: 1, Text: "x"}}, [3]string{"a", "x", ""}},
		"one, and an empty one":             {[]impl.Patch{{At: 1, Text: "x"}, {At: 1}}, [3]string{"a", "", ""}},
		"as it was at first":                {[]impl.Patch{{At: 1, Text: "x"}, {At: 1, Text: "b"}}, [3]string{"a", "b", ""}},
		"others between":                    {[]impl.Patch{{At: 1, Text: "x"}, {At: 0, Text: "p"}, {At: 2, Text: "q"}, {At: 1, Text: "y"}}, [3]string{"p", "y", "q"}},
		"others behind":                     {[]impl.Patch{{At: 1, Text: "x"}, {At: 1, Text: "y"}, {At: 0, Text: "p"}, {At: 2, Text: "q"}, {At: 0, Text: "r"}}, [3]string{"r", "y", "q"}},
		"others alone":                      {[]impl.Patch{{At: 0, Text: "p"}, {At: 2, Text: "q"}}, [3]string{"p", "b", "q"}},
		"an empty one, others between":      {[]impl.Patch{{At: 1, Text: "x"}, {At: 0, Text: "p"}, {At: 1}, {At: 2, Text: "q"}}, [3]string{"p", "", "q"}},
		"30 of one sector, and the last is": {slices.Concat(slices.Repeat([]impl.Patch{{At: 1, Text: "x"}}, 29), []impl.Patch{{At: 1, Text: sized(400)}}), [3]string{"a", sized(400), ""}},
	} {
		d := impl.Device{Sectors: []string{"a", "b", ""}, Late: c.late}
		for at, want := range c.want {
			if got := impl.Lies(d, int64(at)); got != want {
				t.Errorf("%s: at %d: %q", name, at, got)
			}
		}
		for _, at := range []int64{math.MinInt64, -1 << 32, -1, 3, 4, 15, 16, 1 << 32, 1<<32 + 1, math.MaxInt64} {
			if got := impl.Lies(d, at); got != "" {
				t.Errorf("%s: at %d: %q", name, at, got)
			}
		}
	}
}

func TestBarrierOfForms(t *testing.T) {
	for name, c := range map[string]struct {
		d    impl.Device
		want []string
	}{
		"no Late":               {impl.Device{Sectors: []string{"a", ""}}, []string{"a", ""}},
		"one":                   {impl.Device{Sectors: []string{"a", "b"}, Late: []impl.Patch{{At: 1, Text: "x"}}}, []string{"a", "x"}},
		"an empty one":          {impl.Device{Sectors: []string{"a", "b"}, Late: []impl.Patch{{At: 0}}}, []string{"", "b"}},
		"several of one sector": {impl.Device{Sectors: []string{"a", "b"}, Late: []impl.Patch{{At: 1, Text: "z"}, {At: 1, Text: "x"}, {At: 1, Text: "y"}}}, []string{"a", "y"}},
		"a shorter one":         {impl.Device{Sectors: []string{sized(400)}, Late: []impl.Patch{{At: 0, Text: "x"}}}, []string{"x"}},
		"a longer one":          {impl.Device{Sectors: []string{"x"}, Late: []impl.Patch{{At: 0, Text: sized(400)}}}, []string{sized(400)}},
		"each sector":           {impl.Device{Sectors: sectorsOf(3), Late: lateOf(3, 3)}, []string{"late 0", "late 1", "late 2"}},
		"30":                    {impl.Device{Sectors: sectorsOf(4), Late: lateOf(30, 4)}, []string{"late 28", "late 29", "late 26", "late 27"}},
		"a pile":                {pile(), []string{"", "b3", "c", "d1"}},
	} {
		got := impl.Barrier(c.d)
		if !sameDevice(got, impl.Device{Sectors: c.want}) || !impl.DeviceOk(got) {
			t.Errorf("%s: %v", name, got)
		}
		if again := impl.Barrier(got); !sameDevice(again, got) {
			t.Errorf("%s: and once more: %v", name, again)
		}
	}
}

func TestCutOfForms(t *testing.T) {
	const yes, no = true, false
	for name, c := range map[string]struct {
		kept []bool
		want []string
	}{
		"none told":                          {nil, []string{"a", "b", "c", ""}},
		"an empty list":                      {[]bool{}, []string{"a", "b", "c", ""}},
		"all false":                          {make([]bool, 6), []string{"a", "b", "c", ""}},
		"all true":                           {[]bool{yes, yes, yes, yes, yes, yes}, []string{"", "b3", "c", "d1"}},
		"the first of three alone":           {[]bool{yes, no, no, no, no, no}, []string{"a", "b1", "c", ""}},
		"the middle one of three alone":      {[]bool{no, no, yes, no, no, no}, []string{"a", "b2", "c", ""}},
		"the last of three alone":            {[]bool{no, no, no, no, yes, no}, []string{"a", "b3", "c", ""}},
		"the first and the middle one":       {[]bool{yes, no, yes, no, no, no}, []string{"a", "b2", "c", ""}},
		"the first and the last":             {[]bool{yes, no, no, no, yes, no}, []string{"a", "b3", "c", ""}},
		"the other sectors alone":            {[]bool{no, yes, no, yes, no, no}, []string{"a1", "b", "c", "d1"}},
		"the empty one alone":                {[]bool{no, no, no, no, no, yes}, []string{"", "b", "c", ""}},
		"one true":                           {[]bool{yes}, []string{"a", "b1", "c", ""}},
		"one false":                          {[]bool{no}, []string{"a", "b", "c", ""}},
		"three true":                         {[]bool{yes, yes, yes}, []string{"a1", "b2", "c", ""}},
		"five true":                          {[]bool{yes, yes, yes, yes, yes}, []string{"a1", "b3", "c", "d1"}},
		"three, the middle one of one alone": {[]bool{no, no, yes}, []string{"a", "b2", "c", ""}},
		"one more, true":                     {[]bool{yes, yes, yes, yes, yes, yes, yes}, []string{"", "b3", "c", "d1"}},
		"one more, false":                    {[]bool{yes, yes, yes, yes, yes, yes, no}, []string{"", "b3", "c", "d1"}},
		"none but one more":                  {[]bool{no, no, no, no, no, no, yes}, []string{"a", "b", "c", ""}},
		"a thousand more":                    {append(make([]bool, 6), slices.Repeat([]bool{yes}, 1000)...), []string{"a", "b", "c", ""}},
	} {
		if got := impl.Cut(pile(), c.kept); !sameDevice(got, impl.Device{Sectors: c.want}) || !impl.DeviceOk(got) {
			t.Errorf("%s: %v", name, got)
		}
	}
}

// What is in the room behind kept is missing there.
func TestCutKeepsOutOfTheSpareRoom(t *testing.T) {
	kept := slices.Repeat([]bool{true}, 6)
	for n := range 7 {
		if got, want := impl.Cut(pile(), kept[:n]), cutByRule(pile(), slices.Clip(kept[:n])); !sameDevice(got, want) {
			t.Errorf("%d: %v", n, got)
		}
	}
}

func TestCutOfAllAndOfNone(t *testing.T) {
	for name, d := range rightDevices() {
		n := len(d.Late)
		for _, more := range []int{0, 1, 100} {
			if got, want := impl.Cut(d, slices.Repeat([]bool{true}, n+more)), impl.Barrier(d); !sameDevice(got, want) {
				t.Errorf("%s: all are kept: %v", name, got)
			}
			if got := impl.Cut(d, make([]bool, n+more)); !sameDevice(got, impl.Device{Sectors: d.Sectors}) {
				t.Errorf("%s: none is kept: %v", name, got)
			}
		}
		for i := range n {
			if got := impl.Cut(d, make([]bool, i)); !sameDevice(got, impl.Device{Sectors: d.Sectors}) {
				t.Errorf("%s: none of %d is kept: %v", name, i, got)
			}
		}
	}
}

// checkDevice asks each function of the chapter for what the rule tells of a device.
func checkDevice(t *testing.T, name string, d impl.Device, texts []string) {
	t.Helper()
	if got := impl.DeviceOk(d); got != deviceByRule(d) {
		t.Fatalf("%s: DeviceOk: %v", name, got)
	}
	for _, at := range anyPlaces {
		if got := impl.Lies(d, at); got != liesByRule(d, at) {
			t.Fatalf("%s: Lies at %d: %q", name, at, got)
		}
		for _, text := range texts {
			want, ok := layByRule(d, at, text)
			if got, is := impl.Lay(d, at, text); is != ok || !sameDevice(got, want) {
				t.Fatalf("%s: Lay at %d of %d bytes: %v, %v", name, at, len(text), got, is)
			}
		}
	}
	if got := impl.Barrier(d); !sameDevice(got, barrierByRule(d)) {
		t.Fatalf("%s: Barrier: %v", name, got)
	}
	for _, kept := range keptOf(len(d.Late)) {
		if got := impl.Cut(d, kept); !sameDevice(got, cutByRule(d, kept)) {
			t.Fatalf("%s: Cut by %v: %v", name, kept, got)
		}
	}
}

func TestDevicesByRule(t *testing.T) {
	for name, d := range rightDevices() {
		checkDevice(t, name, d, someTexts())
	}
	for name, d := range wrongDevices() {
		checkDevice(t, name, d, someTexts())
	}
}

// bits are n flags, those of the number.
func bits(which int, n int) []bool {
	flags := make([]bool, n)
	for i := range flags {
		flags[i] = which>>i&1 == 1
	}
	return flags
}

// All ways to lay up to five texts into three sectors, and all ways to cut them: each sector is as it was or as one of its Patches, and just so as the rule tells.
func TestAllShortLatesAndCuts(t *testing.T) {
	devices := []impl.Device{{Sectors: []string{"a", "b", "c"}}}
	for size := range 6 {
		next := []impl.Device{}
		for _, d := range devices {
			if len(d.Late) != size {
				t.Fatal(d)
			}
			for which := range 1 << size {
				checkCut(t, d, bits(which, size))
			}
			for at := range int64(3) {
				x, is := impl.Lay(d, at, fmt.Sprint("late ", size))
				if !is {
					t.Fatal(d, at)
				}
				next = append(next, x)
			}
		}
		devices = next
	}
	if len(devices) != 729 {
		t.Fatal(len(devices))
	}
}

func checkCut(t *testing.T, d impl.Device, kept []bool) {
	t.Helper()
	got := impl.Cut(d, kept)
	if !sameDevice(got, cutByRule(d, kept)) || !impl.DeviceOk(got) {
		t.Fatalf("%v cut by %v: %v", d, kept, got)
	}
	for at, text := range got.Sectors {
		was := text == d.Sectors[at]
		late := slices.Contains(d.Late, impl.Patch{At: int64(at), Text: text})
		if !was && !late || impl.Lies(got, int64(at)) != text {
			t.Fatalf("%v cut by %v: at %d: %q", d, kept, at, text)
		}
	}
}

// laidAnew lays some texts, each an own one, and tells into which sectors.
func laidAnew(t *testing.T, source *rand.Rand, d impl.Device, n int, mark string) (impl.Device, map[int64][]string) {
	t.Helper()
	anew := map[int64][]string{}
	for i := range n {
		at, text := source.Int63n(int64(len(d.Sectors))), fmt.Sprint(mark, i)
		next, is := impl.Lay(d, at, text)
		if !is {
			t.Fatal(d, at, text)
		}
		anew[at] = append(anew[at], text)
		d = next
	}
	return d, anew
}

// Promise 8: what Lies behind a Barrier lies there behind every Cut of what is laid later, at each sector that is not laid anew; at one that is, there lies that or one of the later texts.
func TestWhatIsBehindABarrierIsThere(t *testing.T) {
	source := rand.New(rand.NewSource(18))
	stayed, old, later := 0, 0, 0
	for round := range 400 {
		d, _ := impl.NewDevice(1 + source.Int63n(16))
		d, _ = laidAnew(t, source, d, source.Intn(31), "ahead ")
		sure := impl.Barrier(d)
		for at := range int64(len(d.Sectors)) {
			if impl.Lies(sure, at) != impl.Lies(d, at) || sure.Sectors[at] != impl.Lies(d, at) {
				t.Fatal(round, d, sure)
			}
		}
		next, anew := laidAnew(t, source, sure, source.Intn(31), "later ")
		for range 20 {
			kept := bits(source.Int(), source.Intn(40))
			cut := impl.Cut(next, kept)
			for at := range int64(len(d.Sectors)) {
				lies := impl.Lies(cut, at)
				switch {
				case len(anew[at]) == 0 && lies == sure.Sectors[at]:
					stayed++
				case len(anew[at]) > 0 && lies == sure.Sectors[at]:
					old++
				case slices.Contains(anew[at], lies):
					later++
				default:
					t.Fatalf("%v cut by %v: at %d: %q", next, kept, at, lies)
				}
			}
		}
	}
	if stayed < 1000 || old < 1000 || later < 1000 {
		t.Fatal(stayed, old, later)
	}
}

// The same of all cuts of up to four texts that are laid later, and of what was laid later and cut once more.
func TestWhatIsBehindABarrierOutlivesAllCuts(t *testing.T) {
	sure := impl.Barrier(pile())
	for places := range 4 * 4 * 4 * 4 {
		d, anew := sure, [4]bool{}
		for i, rest := 0, places; i < 4; i, rest = i+1, rest/4 {
			next, is := impl.Lay(d, int64(rest%4), fmt.Sprint("later ", i))
			if !is {
				t.Fatal(d)
			}
			d, anew[rest%4] = next, true
		}
		for which := range 1 << 4 {
			cut := impl.Cut(d, bits(which, 4))
			again, is := impl.Lay(cut, int64(places%4), "later yet")
			if !is {
				t.Fatal(cut)
			}
			for _, x := range []impl.Device{cut, impl.Cut(again, nil), impl.Cut(again, []bool{true}), impl.Barrier(again)} {
				for at, was := range sure.Sectors {
					if lies := impl.Lies(x, int64(at)); !anew[at] && (lies != was || x.Sectors[at] != was) {
						t.Fatalf("%v cut by %d: at %d: %q", d, which, at, lies)
					}
				}
			}
		}
	}
}

// Any script of the chapter's functions, beside the same by the rule.
func TestDevicesByAnyScript(t *testing.T) {
	source := rand.New(rand.NewSource(19))
	full := 0
	for range 150 {
		n := 1 + source.Int63n(16)
		d, _ := impl.NewDevice(n)
		want := impl.Device{Sectors: make([]string, n)}
		often := 1 + source.Intn(60)
		for range 120 {
			if source.Intn(often) > 0 {
				at, text := source.Int63n(n+2)-1, sized(source.Intn(403))
				next, is := impl.Lay(d, at, text)
				right, ok := layByRule(want, at, text)
				if is != ok {
					t.Fatal(d, at, text, is)
				}
				if len(d.Late) == 30 {
					full++
				}
				d, want = next, right
			} else if source.Intn(2) == 0 {
				d, want = impl.Barrier(d), barrierByRule(want)
			} else {
				kept := bits(source.Int(), source.Intn(35))
				d, want = impl.Cut(d, kept), cutByRule(want, kept)
			}
			if !impl.DeviceOk(d) || !sameDevice(d, want) {
				t.Fatalf("%v, not %v", d, want)
			}
			if at := source.Int63n(n); impl.Lies(d, at) != liesByRule(want, at) {
				t.Fatal(d, at)
			}
		}
	}
	if full < 100 {
		t.Fatal(full)
	}
}

// otherDevice changes one thing of a device, which may be right all the same.
func otherDevice(source *rand.Rand, d impl.Device) impl.Device {
	d = deviceClone(d)
	place := anyPlaces[source.Intn(len(anyPlaces))]
	size := []int{0, 1, 399, 400, 401, 402}[source.Intn(6)]
	switch source.Intn(7) {
	case 0:
		d.Sectors = append(d.Sectors, sized(size))
	case 1:
		d.Sectors = d.Sectors[:source.Intn(len(d.Sectors)+1)]
	case 2:
		d.Sectors[source.Intn(len(d.Sectors))] = sized(size)
	case 3:
		d.Late = append(d.Late, impl.Patch{At: place, Text: "x"})
	case 4:
		d.Late = append([]impl.Patch{{At: 0, Text: sized(size)}}, d.Late...)
	case 5:
		if len(d.Late) > 0 {
			d.Late[source.Intn(len(d.Late))].At = place
		}
	case 6:
		if len(d.Late) > 0 {
			d.Late[source.Intn(len(d.Late))].Text = sized(size)
		}
	}
	return d
}

func TestDevicesWithAnythingChanged(t *testing.T) {
	source := rand.New(rand.NewSource(20))
	right, wrong := 0, 0
	for range 2000 {
		n := 1 + source.Intn(16)
		d := otherDevice(source, impl.Device{Sectors: sectorsOf(n), Late: lateOf(source.Intn(31), n)})
		checkDevice(t, fmt.Sprintf("%+v", d), d, []string{"x"})
		if deviceByRule(d) {
			right++
		} else {
			wrong++
		}
	}
	if right < 300 || wrong < 300 {
		t.Fatal(right, wrong)
	}
}

// roomyDevice has the same device, with so much room behind each list of it as may tempt.
func roomyDevice(d impl.Device) impl.Device {
	return impl.Device{Sectors: roomy(d.Sectors, "room", sized(401), "", "room"), Late: roomy(d.Late, impl.Patch{At: 0, Text: "room"}, impl.Patch{At: -1}, impl.Patch{At: 1 << 40, Text: sized(401)})}
}

// deviceAnswers are all functions of the chapter, each with a device and flags as its arguments.
func deviceAnswers() map[string]func(impl.Device, []bool) any {
	type changed struct {
		Device impl.Device
		Is     bool
	}
	lay := func(at int64, text string) func(impl.Device, []bool) any {
		return func(d impl.Device, _ []bool) any { x, is := impl.Lay(d, at, text); return changed{x, is} }
	}
	return map[string]func(impl.Device, []bool) any{
		"DeviceOk": func(d impl.Device, _ []bool) any { return impl.DeviceOk(d) },
		"NewDevice": func(d impl.Device, _ []bool) any {
			x, is := impl.NewDevice(int64(len(d.Sectors)))
			return changed{x, is}
		},
		"Lay":              lay(0, "laid"),
		"Lay, refused":     lay(-1, "laid"),
		"Lay, too long":    lay(0, sized(401)),
		"Lies":             func(d impl.Device, _ []bool) any { return impl.Lies(d, 0) },
		"Lies, at none":    func(d impl.Device, _ []bool) any { return impl.Lies(d, int64(len(d.Sectors))) },
		"Barrier":          func(d impl.Device, _ []bool) any { return impl.Barrier(d) },
		"Cut":              func(d impl.Device, kept []bool) any { return impl.Cut(d, kept) },
		"Cut of a Barrier": func(d impl.Device, kept []bool) any { return impl.Cut(impl.Barrier(d), kept) },
	}
}

func memoryDevices() map[string]impl.Device {
	devices := rightDevices()
	for name, d := range wrongDevices() {
		devices["wrong: "+name] = d
	}
	return devices
}

func someKept() [][]bool {
	return [][]bool{nil, {true}, {false, true}, {false, false, true, false, false, true}, slices.Repeat([]bool{true}, 30), make([]bool, 40)}
}

func TestDevicesLeaveTheirArguments(t *testing.T) {
	for name, d := range memoryDevices() {
		for what, answer := range deviceAnswers() {
			for _, kept := range someKept() {
				wide, more := roomyDevice(d), roomy(kept, true, false, true, true)
				lie := slices.Concat(spansOf(reflect.ValueOf(wide)), spansOf(reflect.ValueOf(more)))
				device, flags := withItsRoom(reflect.ValueOf(wide)), withItsRoom(reflect.ValueOf(more))
				got := answer(wide, more)
				if asText(got) != asText(answer(deviceClone(d), slices.Clip(slices.Clone(kept)))) {
					t.Fatalf("%s: %s hangs on the room", name, what)
				}
				if !reflect.DeepEqual(withItsRoom(reflect.ValueOf(wide)).Interface(), device.Interface()) || !reflect.DeepEqual(withItsRoom(reflect.ValueOf(more)).Interface(), flags.Interface()) {
					t.Fatalf("%s: %s changed an argument", name, what)
				}
				if !slices.Equal(lie, slices.Concat(spansOf(reflect.ValueOf(wide)), spansOf(reflect.ValueOf(more)))) {
					t.Fatalf("%s: %s moved a list of an argument", name, what)
				}
			}
		}
	}
}

func TestDevicesGiveNewMemory(t *testing.T) {
	for name, d := range memoryDevices() {
		for what, answer := range deviceAnswers() {
			for _, kept := range someKept() {
				wide, more := roomyDevice(d), roomy(kept, true, false, true, true)
				first := answer(wide, more)
				second := answer(wide, more)
				if sharesMemory(first, wide, more, second) || sharesMemory(second, wide, more) {
					t.Fatalf("%s: %s shares memory", name, what)
				}
			}
		}
	}
}

// What is written into an answer is in none of the device it was made of, nor in another answer.
func TestDevicesApartFromTheirAnswers(t *testing.T) {
	for name, d := range rightDevices() {
		before := deviceClone(d)
		laid, _ := impl.Lay(d, 0, "laid")
		refused, _ := impl.Lay(d, -1, "laid")
		barrier, all, none := impl.Barrier(d), impl.Cut(d, slices.Repeat([]bool{true}, 30)), impl.Cut(d, nil)
		answers := []impl.Device{laid, refused, barrier, all, none}
		wants := []impl.Device{}
		for _, x := range answers {
			wants = append(wants, deviceClone(x))
		}
		for i, x := range answers {
			spoil(x.Sectors, "spoilt")
			spoil(x.Late, impl.Patch{At: 77, Text: "spoilt"})
			if !sameDevice(d, before) {
				t.Fatalf("%s: answer %d is the argument's memory", name, i)
			}
			for j, other := range answers[i+1:] {
				if !sameDevice(other, wants[i+1+j]) {
					t.Fatalf("%s: answers %d and %d share memory", name, i, i+1+j)
				}
			}
		}
	}
}
