package tests

import (
	"fmt"
	"math"
	"math/rand"
	"reflect"
	"slices"
	"strings"
	"testing"

	"loop.example/g00217/impl"
)

func keepClone(k impl.Keep) impl.Keep {
	return impl.Keep{Log: k.Log, Sure: k.Sure, Tree: treeClone(k.Tree)}
}

func sameKeep(a impl.Keep, b impl.Keep) bool {
	return a.Log == b.Log && a.Sure == b.Sure && sameTree(a.Tree, b.Tree)
}

// logLine is the Record of a batch, be it right or not.
func logLine(batch []impl.Write) string {
	return recordByRule(textsWritten(textsOfBatch(batch)...))
}

func logOf(batches ...[]impl.Write) string {
	log := ""
	for _, batch := range batches {
		log += logLine(batch)
	}
	return log
}

func addedByRule(x impl.Tree, batch []impl.Write) (impl.Tree, bool) {
	if y, ok := wroteByRule(x, batch); ok {
		return y, true
	}
	y := x
	if z, ok := spillByRule(y); ok {
		y = z
	}
	if z, ok := sinkByRule(y); ok {
		y = z
	}
	if z, ok := wroteByRule(y, batch); ok {
		return z, true
	}
	return x, false
}

// logsKnown has the trees of logs that were made already, since the long ones are asked for often.
var logsKnown = map[string]impl.Tree{}

func openedByRule(log string) impl.Keep {
	k := impl.Keep{}
	if len(log) > 20000 {
		return k
	}
	texts, _ := recordsByRule(log)
	for _, text := range texts {
		batch, ok := readBatchByRule(text)
		if !ok {
			break
		}
		longer := k.Log + recordByRule(text)
		tree, known := logsKnown[longer]
		if !known {
			if tree, ok = addedByRule(k.Tree, batch); !ok {
				break
			}
			logsKnown[longer] = tree
		}
		k = impl.Keep{Log: longer, Sure: int64(len(longer)), Tree: tree}
	}
	return keepClone(k)
}

func allShown(x impl.Tree) []impl.Entry {
	return scanByRule(x, "", strings.Repeat("\xff", 41), x.Seq)
}

// keepByRule asks what chapter 11 asks of a Keep.
func keepByRule(k impl.Keep) bool {
	if len(k.Log) > 20000 || k.Sure < 0 || k.Sure > int64(len(k.Log)) || len(k.Tree.Snaps) > 0 || !treeByRule(k.Tree) {
		return false
	}
	made := openedByRule(k.Log)
	return made.Log == k.Log && made.Tree.Seq == k.Tree.Seq && slices.Equal(allShown(made.Tree), allShown(k.Tree))
}

func storeByRule(k impl.Keep, batch []impl.Write) (impl.Keep, bool) {
	if !keepByRule(k) {
		return impl.Keep{}, false
	}
	text := batchTextByRule(batch)
	if text == "" || recordByRule(text) == "" {
		return k, false
	}
	tree, ok := addedByRule(k.Tree, batch)
	next := impl.Keep{Log: k.Log + recordByRule(text), Sure: k.Sure, Tree: tree}
	if !ok || !keepByRule(next) {
		return k, false
	}
	return next, true
}

func forceByRule(k impl.Keep) impl.Keep {
	if !keepByRule(k) {
		return impl.Keep{}
	}
	return impl.Keep{Log: k.Log, Sure: int64(len(k.Log)), Tree: k.Tree}
}

func failByRule(k impl.Keep, bytes int64) impl.Keep {
	if !keepByRule(k) {
		return impl.Keep{}
	}
	log := []byte(k.Log[:k.Sure])
	for i := range int64(len(k.Log)) - k.Sure {
		if i < bytes {
			log = append(log, k.Log[k.Sure+i])
		}
	}
	return openedByRule(string(log))
}

func tidyByRule(k impl.Keep) impl.Keep {
	if !keepByRule(k) {
		return impl.Keep{}
	}
	k = keepClone(k)
	if x, ok := spillByRule(k.Tree); ok {
		k.Tree = x
	}
	if x, ok := sinkByRule(k.Tree); ok {
		k.Tree = x
	}
	return k
}

func lookByRule(k impl.Keep, key string) (string, bool) {
	if !keepByRule(k) {
		return "", false
	}
	return readByRule(k.Tree, key, k.Tree.Seq)
}

// fewBatches are what the small Keeps of these tests are made of: Keys that are written again, that are gone, and that come back.
func fewBatches() [][]impl.Write {
	return [][]impl.Write{
		{{Key: "a", Value: "a1"}},
		{{Key: "b", Value: "b2"}, {Key: "a", Value: "a3"}, {Key: "c", Value: "c4"}},
		{{Key: "b", Gone: true}},
		{{Key: "\n", Value: "0 1\n\n"}, {Key: " ", Value: ""}, {Key: "\xff\x00", Value: sized(60)}},
		{{Key: "c", Gone: true}, {Key: "c", Value: "c10"}, {Key: "d", Value: "d11"}, {Key: "d", Gone: true}},
	}
}

// wideBatches have 20 Writes each, no Key twice.
func wideBatches(n int) [][]impl.Write {
	batches := [][]impl.Write{}
	for i := range n {
		batch := []impl.Write{}
		for j := range 20 {
			at := 20*i + j
			batch = append(batch, impl.Write{Key: string([]byte{byte(at / 256), byte(at)})})
		}
		batches = append(batches, batch)
	}
	return batches
}

// narrowBatches have 20 Writes each, all of the same 20 Keys.
func narrowBatches(n int) [][]impl.Write {
	batches := [][]impl.Write{}
	for i := range n {
		batch := []impl.Write{}
		for j := range 20 {
			batch = append(batch, impl.Write{Key: string([]byte{byte('a' + j)}), Value: fmt.Sprint(i)})
		}
		batches = append(batches, batch)
	}
	return batches
}

// goneBatches have so many Writes in all, and show nothing.
func goneBatches(writes int) [][]impl.Write {
	batches := [][]impl.Write{}
	for writes > 0 {
		n := min(writes, 20)
		batches = append(batches, slices.Repeat([]impl.Write{{Key: "g", Gone: true}}, n))
		writes -= n
	}
	return batches
}

// batchTaking has a batch whose Record takes just so many bytes.
func batchTaking(size int) []impl.Write {
	for letter := 'a'; letter <= 'z'; letter++ {
		for full := range 15 {
			for last := range 201 {
				// How many bytes that is, but for some digits.
				if about := size - 206*full - last; about < 15 || about > 30 {
					continue
				}
				batch := slices.Repeat([]impl.Write{{Key: "k", Value: strings.Repeat(string(letter), 200)}}, full)
				batch = append(batch, impl.Write{Key: "l", Value: strings.Repeat(string(letter), last)})
				if text := batchTextByRule(batch); len(text) <= 3000 && len(recordByRule(text)) == size {
					return batch
				}
			}
		}
	}
	panic(fmt.Sprint("no batch takes ", size))
}

// batchesTaking have Records of so many bytes in all.
func batchesTaking(size int) [][]impl.Write {
	batches := [][]impl.Write{}
	for size > 3000 {
		batches = append(batches, batchTaking(2500))
		size -= 2500
	}
	return append(batches, batchTaking(size))
}

// noBatches are texts of Records that are no batches.
func noBatches() map[string]string {
	texts := map[string]string{
		"an empty text":          "",
		"a word":                 "stone",
		"Texts of none":          "\x00",
		"two texts":              textsWritten("k", "v"),
		"a batch, and a byte":    textsWritten("k", "v", "0") + "0",
		"a batch without its 0":  textsWritten("k", "v", ""),
		"a Record":               recordByRule(textsWritten("k", "v", "0")),
		"a batch in another way": "\x83\x00\x01k\x01v\x010",
	}
	for name, batch := range wrongBatches() {
		if text := textsWritten(textsOfBatch(batch)...); len(text) <= 3000 {
			texts[name] = text
		}
	}
	return texts
}

// withTree is a Keep whose Tree is another one.
func withTree(k impl.Keep, x impl.Tree) impl.Keep {
	k.Tree = x
	return k
}

// manyYoung has 6 Tables in Young of some Entries of one Key each, and so many Entries in Memory.
func manyYoung(each int, memory int) impl.Tree {
	x := impl.Tree{}
	for i := range 6 {
		list := []impl.Entry{}
		for range each {
			x.Seq++
			list = append(list, written(fmt.Sprint("y", i), "x", x.Seq))
		}
		x.Young = append(x.Young, builtOf(inOrder(list)...))
	}
	for _, e := range shifted(numbered(memory), x.Seq) {
		x.Memory = append(x.Memory, e)
		x.Seq = max(x.Seq, e.Seq)
	}
	return x
}

// rightKeeps has Keeps that are KeepOk, the long ones left out.
func rightKeeps() map[string]impl.Keep {
	keeps := map[string]impl.Keep{
		"zero Keep":   {},
		"empty lists": {Tree: impl.Tree{Memory: []impl.Entry{}, Young: []impl.Table{}, Old: []impl.Table{}, Snaps: []int64{}}},
	}
	for n := range fewBatches() {
		keeps[fmt.Sprint("opened: ", n+1)] = openedByRule(logOf(fewBatches()[:n+1]...))
	}
	k := openedByRule(logOf(fewBatches()...))
	for _, sure := range []int64{0, 1, 19, 20, 21, 70, k.Sure - 1} {
		keeps[fmt.Sprint("sure: ", sure)] = impl.Keep{Log: k.Log, Sure: sure, Tree: k.Tree}
	}
	spilled, _ := spillByRule(k.Tree)
	sunk, _ := sinkByRule(spilled)
	keeps["spilled"], keeps["spilled and sunk"] = withTree(k, spilled), withTree(k, sunk)
	two, _ := storeByRule(tidyByRule(openedByRule(logOf(fewBatches()[:2]...))), fewBatches()[2])
	keeps["tidied, and one more"] = two
	keeps["tidied twice"] = tidyByRule(two)
	shown := k.Tree
	shown.Memory = allShown(k.Tree)
	keeps["what is shown alone"] = withTree(k, shown)
	shown.Memory = inOrder(append(allShown(k.Tree), goneAt("nobody", 1), written("a", "never", 1)))
	keeps["what is shown, and more that is not"] = withTree(k, shown)
	shown.Memory = nil
	shown.Old = []impl.Table{tableOf(inGroups(allShown(k.Tree), 2)...)}
	keeps["what is shown, in Blocks of 2"] = withTree(k, shown)

	gone := openedByRule(logOf(goneBatches(9)...))
	keeps["Gone alone"] = gone
	keeps["Gone alone, an empty Tree"] = withTree(gone, impl.Tree{Seq: 9})
	keeps["a batch of 20"] = openedByRule(logOf(wideBatches(1)...))
	keeps["a batch of 3000 bytes"] = openedByRule(logOf(greatBatch(0)))
	return keeps
}

// greatBatch is one of MaxText bytes, and of so many more.
func greatBatch(more int) []impl.Write {
	batch := slices.Repeat([]impl.Write{{Key: "k", Value: sized(200)}}, 14)
	return append(batch, impl.Write{Key: "l", Value: sized(110 + more)})
}

// longKeeps are right too: their trees or their logs are near to where they end.
func longKeeps() map[string]impl.Keep {
	gone := openedByRule(logOf(goneBatches(306)...))
	some := openedByRule(logOf(goneBatches(310)...))
	wide := openedByRule(logOf(wideBatches(120)...))
	tidied := tidyByRule(openedByRule(logOf(narrowBatches(10)...)))
	for _, batch := range narrowBatches(14) {
		tidied, _ = storeByRule(tidied, batch)
	}
	return map[string]impl.Keep{
		"Memory is full":                      openedByRule(logOf(wideBatches(15)...)),
		"a batch more than Memory takes":      openedByRule(logOf(wideBatches(16)...)),
		"the same, of Keys that are few":      openedByRule(logOf(narrowBatches(16)...)),
		"tidied, of Keys that are few":        tidyByRule(openedByRule(logOf(narrowBatches(14)...))),
		"tidied, and 280 behind it":           tidied,
		"Tables that do not sink":             openedByRule(logOf(wideBatches(31)...)),
		"all is full":                         wide,
		"all is full, an empty Tree":          withTree(wide, impl.Tree{Seq: 2400}),
		"a log of MaxLog":                     openedByRule(logOf(batchesTaking(20000)...)),
		"a log of MaxLog, not sure":           {Log: logOf(batchesTaking(20000)...), Tree: openedByRule(logOf(batchesTaking(20000)...)).Tree},
		"a log of MaxLog - 1":                 openedByRule(logOf(batchesTaking(19999)...)),
		"Gone alone, more than shown":         withTree(gone, manyYoung(1, 300)),
		"Gone alone, more than shown in all":  withTree(some, manyYoung(10, 250)),
		"Gone alone, of 306, an empty Memory": withTree(gone, impl.Tree{Seq: 306, Young: []impl.Table{builtOf(goneAt("g", 306))}}),
	}
}

// wrongKeeps has Keeps that fail in one way each.
func wrongKeeps() map[string]impl.Keep {
	log := logOf(fewBatches()...)
	k := openedByRule(log)
	end := int64(len(log))
	keeps := map[string]impl.Keep{
		"no Log":                   {Tree: k.Tree},
		"no Tree":                  {Log: log, Sure: end},
		"Sure -1":                  {Log: log, Sure: -1, Tree: k.Tree},
		"Sure least of all":        {Log: log, Sure: math.MinInt64, Tree: k.Tree},
		"Sure one past the end":    {Log: log, Sure: end + 1, Tree: k.Tree},
		"Sure greatest of all":     {Log: log, Sure: math.MaxInt64, Tree: k.Tree},
		"Sure past 32 bits":        {Log: log, Sure: 1 << 32, Tree: k.Tree},
		"zero but Sure 1":          {Sure: 1},
		"zero but Sure -1":         {Sure: -1},
		"a byte more":              {Log: log + "x", Sure: end, Tree: k.Tree},
		"a byte 10 more":           {Log: log + "\n", Sure: end, Tree: k.Tree},
		"a digit more":             {Log: log + "1", Sure: end, Tree: k.Tree},
		"a byte 0 more":            {Log: log + "\x00", Sure: end, Tree: k.Tree},
		"a byte more, sure":        {Log: log + "x", Sure: end + 1, Tree: k.Tree},
		"a byte ahead":             {Log: "\n" + log, Sure: end, Tree: k.Tree},
		"a byte alone":             {Log: "x"},
		"a part of a Record more":  {Log: log + log[:30], Sure: end, Tree: openedByRule(log + log[:20]).Tree},
		"a byte less":              {Log: log[:end-1], Sure: end - 1, Tree: k.Tree},
		"a byte less, as made":     {Log: log[:end-1], Sure: end - 1, Tree: openedByRule(log[:end-1]).Tree},
		"a batch more in the Log":  {Log: log + logOf(fewBatches()[2]), Sure: end, Tree: k.Tree},
		"a batch less in the Log":  {Log: logOf(fewBatches()[:4]...), Tree: k.Tree},
		"two batches changed":      {Log: logOf(fewBatches()[1], fewBatches()[0]), Tree: openedByRule(logOf(fewBatches()[:2]...)).Tree},
		"a batch more in the Tree": {Log: log, Sure: end, Tree: openedByRule(log + logOf(fewBatches()[2])).Tree},
	}
	for name, text := range noBatches() {
		record := recordByRule(text)
		keeps["no batch: "+name] = impl.Keep{Log: record}
		keeps["no batch, first: "+name] = impl.Keep{Log: record + log, Sure: end, Tree: k.Tree}
		keeps["no batch, last: "+name] = impl.Keep{Log: log + record, Sure: end, Tree: k.Tree}
		keeps["no batch, between: "+name] = impl.Keep{Log: logOf(fewBatches()[:3]...) + record + logOf(fewBatches()[3:]...), Tree: k.Tree}
	}
	for name, x := range otherTreesOf(k) {
		keeps["Tree: "+name] = withTree(k, x)
	}
	for name, x := range wrongTrees() {
		// The log shows nothing and gives as many Seqs, so that it is the Tree alone that is wrong.
		if x.Seq > 0 && x.Seq <= 310 {
			keeps["wrong Tree: "+name] = withTree(openedByRule(logOf(goneBatches(int(x.Seq))...)), x)
		}
		if x.Seq == 0 {
			keeps["wrong Tree, no Log: "+name] = impl.Keep{Tree: x}
		}
	}
	return keeps
}

// otherTreesOf are right Trees, but for the first ones, which tell another thing than the log of a Keep.
func otherTreesOf(k impl.Keep) map[string]impl.Tree {
	change := func(with func(x *impl.Tree)) impl.Tree {
		x := treeClone(k.Tree)
		with(&x)
		return x
	}
	at := func(key string) int {
		return slices.IndexFunc(k.Tree.Memory, func(e impl.Entry) bool { return e.Key == key })
	}
	sunk := tidyByRule(k).Tree
	return map[string]impl.Tree{
		"not in order":              change(func(x *impl.Tree) { x.Memory[0], x.Memory[1] = x.Memory[1], x.Memory[0] }),
		"a Table that is none":      change(func(x *impl.Tree) { x.Young = []impl.Table{{}} }),
		"2 in Old":                  change(func(x *impl.Tree) { x.Memory, x.Old = nil, slices.Repeat(sunk.Old, 2) }),
		"a Snap 0":                  change(func(x *impl.Tree) { x.Snaps = []int64{0} }),
		"a Snap that is Seq":        change(func(x *impl.Tree) { x.Snaps = []int64{x.Seq} }),
		"Snaps":                     change(func(x *impl.Tree) { x.Snaps = []int64{1, 3, 5} }),
		"a Snap, sunk":              {Old: sunk.Old, Seq: sunk.Seq, Snaps: []int64{4}},
		"Seq and 1":                 change(func(x *impl.Tree) { x.Seq++ }),
		"Seq is MaxSeq":             change(func(x *impl.Tree) { x.Seq = 1000000 }),
		"Seq less 1, sunk":          {Old: sunk.Old, Seq: sunk.Seq - 1},
		"another Value":             change(func(x *impl.Tree) { x.Memory[at("a")].Value = "other" }),
		"an empty Value":            change(func(x *impl.Tree) { x.Memory[at("a")].Value = "" }),
		"another Key":               change(func(x *impl.Tree) { x.Memory[at("\n")].Key = "\t" }),
		"another Seq of a Key":      change(func(x *impl.Tree) { x.Memory[at("a")].Seq-- }),
		"one less":                  change(func(x *impl.Tree) { x.Memory = slices.Delete(x.Memory, at("\n"), at("\n")+1) }),
		"the first one less":        change(func(x *impl.Tree) { x.Memory = x.Memory[1:] }),
		"the last one less":         change(func(x *impl.Tree) { x.Memory = x.Memory[:len(x.Memory)-1] }),
		"one that is Gone":          change(func(x *impl.Tree) { x.Memory[at("\n")] = goneAt("\n", 6) }),
		"one Gone that is there":    change(func(x *impl.Tree) { x.Memory[at("b")] = written("b", "b5", 5) }),
		"one more":                  change(func(x *impl.Tree) { x.Memory = inOrder(append(x.Memory, written("x", "", 1))) }),
		"one more, the greatest":    change(func(x *impl.Tree) { x.Memory = append(x.Memory, written(strings.Repeat("\xff", 40), "", 1)) }),
		"one more, in Old":          change(func(x *impl.Tree) { x.Old = []impl.Table{builtOf(written("x", "x", 1))} }),
		"another Value, sunk":       {Old: []impl.Table{builtOf(slices.Insert(entriesOf(sunk.Old[0])[1:], 0, written("\n", "x", 6))...)}, Seq: sunk.Seq},
		"nothing, with its Seq":     {Seq: k.Tree.Seq},
		"the Tree of fewer batches": {Memory: openedByRule(logOf(fewBatches()[:4]...)).Tree.Memory, Seq: k.Tree.Seq},
		"more than are shown":       change(func(x *impl.Tree) { x.Old = []impl.Table{builtOf(hidden(300)...)} }),
	}
}

func entriesOf(x impl.Table) []impl.Entry {
	list, _ := entriesOfTable(x)
	return list
}

// hidden are Entries that are Gone, with Seqs of which there may be many.
func hidden(n int) []impl.Entry {
	list := []impl.Entry{}
	for i := range n {
		list = append(list, goneAt(fmt.Sprintf("h%04d", i), 1))
	}
	return list
}

func TestKeepOkOfRightKeeps(t *testing.T) {
	for _, keeps := range []map[string]impl.Keep{rightKeeps(), longKeeps()} {
		for name, k := range keeps {
			if !impl.KeepOk(k) || !keepByRule(k) {
				t.Errorf("%s: refused: %v, by the rule %v", name, impl.KeepOk(k), keepByRule(k))
			}
		}
	}
}

func TestKeepOkOfWrongKeeps(t *testing.T) {
	for name, k := range wrongKeeps() {
		if impl.KeepOk(k) || keepByRule(k) {
			t.Errorf("%s: taken: %v, by the rule %v", name, impl.KeepOk(k), keepByRule(k))
		}
	}
}

func TestKeepOkOfForms(t *testing.T) {
	text := "\x03\x01a\x011\x010"
	log := fmt.Sprint(len(text), " ", digestText(text), "\n", text, "\n")
	tree := impl.Tree{Memory: []impl.Entry{written("a", "1", 1)}, Seq: 1}
	if !impl.KeepOk(impl.Keep{}) || !impl.KeepOk(impl.Keep{Log: log, Tree: tree}) || !impl.KeepOk(impl.Keep{Log: log, Sure: int64(len(log)), Tree: tree}) {
		t.Fatal("refused")
	}
	for _, x := range []impl.Tree{
		{Young: []impl.Table{builtOf(written("a", "1", 1))}, Seq: 1},
		{Old: []impl.Table{builtOf(written("a", "1", 1))}, Seq: 1},
		{Memory: []impl.Entry{written("a", "1", 1), goneAt("b", 1)}, Seq: 1},
		{Memory: []impl.Entry{written("a", "1", 1)}, Old: []impl.Table{builtOf(goneAt("b", 1), goneAt("c", 1))}, Seq: 1},
	} {
		if !impl.KeepOk(impl.Keep{Log: log, Tree: x}) {
			t.Errorf("%+v: refused", x)
		}
	}
	for _, x := range []impl.Tree{
		{},
		{Seq: 1},
		{Memory: []impl.Entry{written("a", "1", 1)}, Seq: 2},
		{Memory: []impl.Entry{written("a", "2", 1)}, Seq: 1},
		{Memory: []impl.Entry{written("b", "1", 1)}, Seq: 1},
		{Memory: []impl.Entry{goneAt("a", 1)}, Seq: 1},
		{Memory: []impl.Entry{written("a", "1", 1), written("b", "", 1)}, Seq: 1},
		{Memory: []impl.Entry{written("a", "1", 1)}, Seq: 1, Snaps: []int64{0}},
		{Memory: []impl.Entry{written("a", "1", 1)}, Seq: 1, Snaps: []int64{1}},
		{Memory: []impl.Entry{written("a", "1", 1)}, Young: []impl.Table{builtOf(written("a", "1", 1))}, Seq: 1},
	} {
		if impl.KeepOk(impl.Keep{Log: log, Tree: x}) {
			t.Errorf("%+v: taken", x)
		}
	}
}

// A Log is as long as it may be: of MaxLog bytes, and of one more, with all other things as they are.
func TestKeepOkOfALogOfMaxLog(t *testing.T) {
	for _, size := range []int{19998, 19999, 20000, 20001, 20002, 20050} {
		log := logOf(batchesTaking(size)...)
		tree := impl.Tree{}
		for _, batch := range batchesTaking(size) {
			tree, _ = addedByRule(tree, batch)
		}
		if len(log) != size || len(allShown(tree)) != 2 {
			t.Fatal(len(log), size, allShown(tree))
		}
		for _, sure := range []int64{0, int64(size)} {
			if is := impl.KeepOk(impl.Keep{Log: log, Sure: sure, Tree: tree}); is != (size <= 20000) {
				t.Errorf("%d bytes: %v", size, is)
			}
		}
		got := impl.Opened(log)
		if want := openedByRule(log); !sameKeep(got, want) || (len(got.Log) == size) != (size <= 20000) {
			t.Errorf("%d bytes: opened %d", size, len(got.Log))
		}
	}
}

// What is shown counts, however it is kept; where more Entries are there than are ever shown, nothing is.
func TestKeepOkWhereNothingIsShown(t *testing.T) {
	for _, c := range []struct {
		entries int
		is      bool
	}{{299, false}, {300, false}, {301, true}, {310, true}, {500, true}} {
		x := impl.Tree{Seq: 500, Old: []impl.Table{builtOf(numbered(200)...)}, Memory: shifted(numbered(c.entries-200), 200)}
		k := withTree(openedByRule(logOf(goneBatches(500)...)), x)
		if is := impl.KeepOk(k); is != c.is || is != keepByRule(k) {
			t.Errorf("%d: %v", c.entries, is)
		}
	}
	// A log that shows 300 is not one that shows nothing, and one of 301 is.
	for n, is := range map[int]bool{15: false, 16: true} {
		k := withTree(openedByRule(logOf(wideBatches(n)...)), impl.Tree{Seq: int64(20 * n)})
		if got := impl.KeepOk(k); got != is || got != keepByRule(k) {
			t.Errorf("%d batches: %v", n, got)
		}
	}
}

func TestOpenedOfForms(t *testing.T) {
	if k := impl.Opened(""); !sameKeep(k, impl.Keep{}) {
		t.Fatal(k)
	}
	one, two := []impl.Write{{Key: "b", Value: "1"}, {Key: "a", Value: "2"}}, []impl.Write{{Key: "b", Gone: true}}
	log := impl.Record(impl.Batch(one)) + impl.Record(impl.Batch(two))
	want := impl.Keep{Log: log, Sure: int64(len(log)), Tree: impl.Tree{Memory: []impl.Entry{written("a", "2", 2), goneAt("b", 3), written("b", "1", 1)}, Seq: 3}}
	if k := impl.Opened(log); !sameKeep(k, want) {
		t.Fatal(k)
	}
	for _, behind := range []string{"x", "\n", "0", log[:9], impl.Record(""), impl.Record("no batch"), "0 1\n\n" + log, strings.Repeat("\n", 20000-len(log))} {
		if k := impl.Opened(log + behind); !sameKeep(k, want) {
			t.Fatalf("%.20q: %v", behind, k)
		}
	}
	if k := impl.Opened(log + strings.Repeat("\n", 20001-len(log))); !sameKeep(k, impl.Keep{}) {
		t.Fatal(k)
	}
}

// checkOpened holds one log against the rule, and asks that what was opened is right and opens again.
func checkOpened(t *testing.T, name string, log string) impl.Keep {
	t.Helper()
	k := impl.Opened(log)
	if want := openedByRule(log); !sameKeep(k, want) {
		t.Fatalf("%s: Opened of %.60q: %.200s, not %.200s", name, log, asText(k), asText(want))
	}
	if !impl.KeepOk(k) || !strings.HasPrefix(log, k.Log) || k.Sure != int64(len(k.Log)) || !sameKeep(impl.Opened(k.Log), k) {
		t.Fatalf("%s: Opened of %.60q: %.200s", name, log, asText(k))
	}
	return k
}

func TestOpenedCutAtEveryByte(t *testing.T) {
	log := logOf(fewBatches()...)
	batches := 0
	for at := range len(log) + 1 {
		k := checkOpened(t, fmt.Sprint("cut at ", at), log[:at])
		for batches < 5 && len(logOf(fewBatches()[:batches+1]...)) <= at {
			batches++
		}
		if k.Log != logOf(fewBatches()[:batches]...) {
			t.Fatalf("cut at %d: %q", at, k.Log)
		}
		checkOpened(t, fmt.Sprint("from ", at), log[at:])
	}
	if batches != 5 {
		t.Fatal(batches)
	}
}

func TestOpenedWithAnyByteChanged(t *testing.T) {
	log := logOf(fewBatches()...)
	ahead := 0
	for at := range len(log) {
		for ahead < 4 && len(logOf(fewBatches()[:ahead+1]...)) <= at {
			ahead++
		}
		for _, b := range []byte{'\n', ' ', '0', '7', 'x', 0, 255, log[at] + 1, log[at] - 1, log[at] ^ 128} {
			if b == log[at] {
				continue
			}
			k := checkOpened(t, fmt.Sprint("changed at ", at), log[:at]+string([]byte{b})+log[at+1:])
			if k.Log != logOf(fewBatches()[:ahead]...) {
				t.Fatalf("changed at %d: %q", at, k.Log)
			}
		}
		checkOpened(t, "a byte more", log[:at]+"7"+log[at:])
		checkOpened(t, "a byte less", log[:at]+log[at+1:])
	}
}

func TestOpenedWithARecordThatIsNoBatch(t *testing.T) {
	for name, text := range noBatches() {
		for n := range 6 {
			ahead, behind := fewBatches()[:n], fewBatches()[n:]
			k := checkOpened(t, name, logOf(ahead...)+recordByRule(text)+logOf(behind...))
			if k.Log != logOf(ahead...) {
				t.Errorf("%s behind %d: %q", name, n, k.Log)
			}
		}
	}
}

// Batches that can't be added, with those behind them that could.
func TestOpenedWithABatchThatFindsNoRoom(t *testing.T) {
	wide := wideBatches(141)
	for n := 118; n <= 123; n++ {
		k := checkOpened(t, fmt.Sprint("wide: ", n), logOf(wide[:n]...))
		if k.Tree.Seq != int64(20*min(n, 120)) || len(k.Log) != len(logOf(wide[:min(n, 120)]...)) {
			t.Fatalf("%d: %d", n, k.Tree.Seq)
		}
	}
	full := checkOpened(t, "all", logOf(wide...))
	if len(full.Tree.Memory) != 300 || len(full.Tree.Young) != 6 || len(full.Tree.Old) != 1 || full.Tree.Seq != 2400 {
		t.Fatalf("%d, %d, %d", len(full.Tree.Memory), len(full.Tree.Young), len(full.Tree.Old))
	}
	// With 10 to go, a batch of 20 finds no room, and one of 10 behind it is not asked any more.
	some := logOf(wide[:119]...) + logOf(wide[119][:10])
	k := checkOpened(t, "10 to go", some+logOf(wide[120])+logOf(wide[121][:10]))
	if k.Log != some || k.Tree.Seq != 2390 || len(k.Tree.Memory) != 290 {
		t.Fatalf("%d, %d", k.Tree.Seq, len(k.Tree.Memory))
	}
	k = checkOpened(t, "just these 10", some+logOf(wide[121][:10]))
	if k.Tree.Seq != 2400 {
		t.Fatalf("%d", k.Tree.Seq)
	}
	// Few Keys are no help: what lies below is never sunk with so many above it.
	k = checkOpened(t, "few Keys", logOf(narrowBatches(125)...))
	if k.Tree.Seq != 2400 || len(k.Tree.Young) != 6 {
		t.Fatalf("%d", k.Tree.Seq)
	}
	// A keep whose log can't be added whole is none, however its tree came to be.
	log := logOf(wide[:121]...)
	for _, x := range []impl.Tree{full.Tree, {Seq: 2400}, {Seq: 2420}} {
		if impl.KeepOk(impl.Keep{Log: log, Tree: x}) {
			t.Error(x.Seq)
		}
	}
}

func TestOpenedOfAnyLog(t *testing.T) {
	source := rand.New(rand.NewSource(40))
	counts := map[int64]int{}
	for range 1500 {
		log := ""
		for range source.Intn(6) {
			part := logLine(anyBatch(source, []string{"a", "b", "\n", "0 1"}, 1+source.Intn(4)))
			switch source.Intn(14) {
			case 0:
				part = string(changed(source, []byte(part)))
			case 1:
				part = logLine([]impl.Write{{Key: "k"}, {Key: "", Value: "v"}})
			case 2:
				part = recordByRule(anyBytes(source, source.Intn(9)))
			}
			log += part
		}
		if source.Intn(3) == 0 {
			log = log[:source.Intn(len(log)+1)]
		}
		counts[min(checkOpened(t, "any log", log).Tree.Seq, 9)]++
	}
	if counts[0] < 100 || counts[9] < 100 {
		t.Fatal(counts)
	}
	for _, text := range anyTexts(41, 300) {
		checkOpened(t, "any text", text)
	}
}

// checkStore holds one Store against the rule.
func checkStore(t *testing.T, name string, k impl.Keep, batch []impl.Write) (impl.Keep, bool) {
	t.Helper()
	got, ok := impl.Store(k, batch)
	want, is := storeByRule(k, batch)
	if ok != is || !sameKeep(got, want) {
		t.Fatalf("%s: Store of %.100s: %v, %.200s, not %v, %.200s", name, asText(batch), ok, asText(got), is, asText(want))
	}
	if !impl.KeepOk(got) {
		t.Fatalf("%s: Store of %.100s is not right", name, asText(batch))
	}
	return got, ok
}

func TestStoreOfForms(t *testing.T) {
	k, ok := impl.Store(impl.Keep{}, []impl.Write{{Key: "b", Value: "1"}, {Key: "a", Value: "2"}})
	first := impl.Record("\x06\x01b\x011\x010\x01a\x012\x010")
	want := impl.Keep{Log: first, Tree: impl.Tree{Memory: []impl.Entry{written("a", "2", 2), written("b", "1", 1)}, Seq: 2}}
	if !ok || !sameKeep(k, want) {
		t.Fatal(k, ok)
	}
	k = impl.Force(k)
	want.Sure = int64(len(first))
	if !sameKeep(k, want) {
		t.Fatal(k)
	}
	k, ok = impl.Store(k, []impl.Write{{Key: "b", Gone: true}})
	want.Log += impl.Record("\x03\x01b\x00\x011")
	want.Tree = impl.Tree{Memory: []impl.Entry{written("a", "2", 2), goneAt("b", 3), written("b", "1", 1)}, Seq: 3}
	if !ok || !sameKeep(k, want) {
		t.Fatal(k, ok)
	}
	k = impl.Tidy(k)
	want.Tree = impl.Tree{Old: []impl.Table{builtOf(written("a", "2", 2))}, Seq: 3}
	if !sameKeep(k, want) {
		t.Fatal(k)
	}
	k, ok = impl.Store(k, []impl.Write{{Key: "b", Value: "4"}})
	want.Log += impl.Record("\x03\x01b\x014\x010")
	want.Tree.Memory, want.Tree.Seq = []impl.Entry{written("b", "4", 4)}, 4
	if !ok || !sameKeep(k, want) {
		t.Fatal(k, ok)
	}
}

func TestStoreOfRightBatches(t *testing.T) {
	for name, k := range rightKeeps() {
		for what, batch := range journalBatches() {
			text := batchTextByRule(batch)
			got, ok := checkStore(t, name+", "+what, k, batch)
			// Where the Tree shows what the log shows, one batch more is taken unless it is too long.
			if ok != (len(text) <= 3000) || ok && (got.Log != k.Log+recordByRule(text) || got.Sure != k.Sure || got.Tree.Seq != k.Tree.Seq+int64(len(batch))) {
				t.Fatalf("%s, %s: %v", name, what, ok)
			}
		}
	}
}

func TestStoreOfWrongBatches(t *testing.T) {
	batches := wrongBatches()
	batches["nil"], batches["none"] = nil, []impl.Write{}
	batches["3001 bytes"] = greatBatch(1)
	batches["20 of the greatest"] = slices.Repeat([]impl.Write{{Key: sized(40), Value: sized(200)}}, 20)
	for what, batch := range batches {
		for name, k := range rightKeeps() {
			if got, ok := impl.Store(k, batch); ok || !sameKeep(got, k) {
				t.Errorf("%s, %s: %.100s, %v", name, what, asText(got), ok)
			}
		}
	}
	full := longKeeps()["all is full"]
	for what, batch := range batches {
		if strings.Contains(what, "first") || strings.Contains(what, "between") {
			continue
		}
		if got, ok := impl.Store(full, batch); ok || !sameKeep(got, full) {
			t.Errorf("full, %s: %v", what, ok)
		}
	}
	if got, ok := checkStore(t, "3000 bytes", impl.Keep{}, greatBatch(0)); !ok || len(got.Log) != 3017 {
		t.Error(len(got.Log), ok)
	}
}

func TestStoreOfLongKeeps(t *testing.T) {
	for name, k := range longKeeps() {
		for _, batch := range [][]impl.Write{{{Key: "new", Value: "x"}}, {{Key: "g", Gone: true}}, wideBatches(1)[0], narrowBatches(1)[0], nil} {
			checkStore(t, name, k, batch)
		}
	}
}

// Until the Log is full: a batch that makes it MaxLog is taken, one that makes it a byte more is not.
func TestStoreUntilTheLogIsFull(t *testing.T) {
	k := impl.Keep{}
	for _, batch := range batchesTaking(19900) {
		next, ok := checkStore(t, "filling", k, batch)
		if !ok {
			t.Fatal(len(k.Log))
		}
		k = next
	}
	for size := 90; size <= 110; size++ {
		if got, ok := checkStore(t, fmt.Sprint(size), k, batchTaking(size)); ok != (size <= 100) || ok && len(got.Log) != 19900+size {
			t.Fatal(size, ok, len(got.Log))
		}
	}
	full, ok := checkStore(t, "to the end", k, batchTaking(100))
	if !ok || len(full.Log) != 20000 {
		t.Fatal(len(full.Log), ok)
	}
	for _, batch := range [][]impl.Write{batchTaking(20), {{Key: "a", Gone: true}}, batchTaking(3000)} {
		if got, ok := checkStore(t, "full", full, batch); ok || !sameKeep(got, full) {
			t.Fatal(ok)
		}
	}
	// Tidying and forcing make no room in the Log.
	tidied := impl.Tidy(impl.Force(full))
	if got, ok := impl.Store(tidied, batchTaking(20)); ok || !sameKeep(got, tidied) || tidied.Sure != 20000 {
		t.Fatal(ok)
	}
	// What failed of it makes room for as much.
	failed := impl.Fail(full, 19999)
	if got, ok := checkStore(t, "failed", failed, batchTaking(100)); !ok || len(failed.Log) != 19900 || got.Log != failed.Log+logLine(batchTaking(100)) {
		t.Fatal(ok, len(failed.Log))
	}
}

// Where Memory has no room, it is spilled and sunk first; where that makes none, the Keep is as it was.
func TestStoreUntilTheTreeIsFull(t *testing.T) {
	k := impl.Keep{}
	for i, batch := range wideBatches(120) {
		next, ok := impl.Store(k, batch)
		if !ok {
			t.Fatal(i)
		}
		k = next
		if i%5 == 0 || i > 115 {
			if want := openedByRule(logOf(wideBatches(i + 1)...)); k.Log != want.Log || k.Sure != 0 || !sameTree(k.Tree, want.Tree) {
				t.Fatal(i)
			}
		}
		memory, young, old := 20*(i%15+1), max(0, i/15-1), min(1, i/15)
		if len(k.Tree.Memory) != memory || len(k.Tree.Young) != young || len(k.Tree.Old) != old {
			t.Fatal(i, len(k.Tree.Memory), len(k.Tree.Young), len(k.Tree.Old))
		}
	}
	for _, batch := range [][]impl.Write{{{Key: "x"}}, {{Key: "x", Gone: true}}, wideBatches(121)[120]} {
		if got, ok := checkStore(t, "full", k, batch); ok || !sameKeep(got, k) {
			t.Fatal(ok)
		}
	}
	// Nothing of that is lost to readers, though there is more than a Scan tells.
	for i, batch := range wideBatches(120) {
		if i%11 != 0 {
			continue
		}
		if value, there := impl.Look(k, batch[i%20].Key); value != "" || !there {
			t.Fatal(i)
		}
	}
}

// Of Keys that are few: when Memory is spilled and sunk, the newest of each is left.
func TestStoreSpillsAndSinks(t *testing.T) {
	k := impl.Keep{}
	for i, batch := range narrowBatches(20) {
		next, ok := checkStore(t, fmt.Sprint(i), k, batch)
		if !ok || (i < 15) != (len(next.Tree.Old) == 0) {
			t.Fatal(i, ok, len(next.Tree.Old))
		}
		k = next
	}
	if list := entriesOf(k.Tree.Old[0]); len(k.Tree.Young) != 0 || len(k.Tree.Memory) != 100 || len(list) != 20 || list[0].Value != "14" {
		t.Fatal(len(k.Tree.Memory), list)
	}
	// One that is not so great is taken into Memory as long as that has room.
	part, _ := impl.Store(openedByRule(logOf(narrowBatches(14)...)), narrowBatches(1)[0][:15])
	for n, spilled := range map[int]bool{1: false, 5: false, 6: true, 20: true} {
		got, ok := checkStore(t, fmt.Sprint(n), part, narrowBatches(1)[0][:n])
		if !ok || (len(got.Tree.Old) == 1) != spilled {
			t.Fatal(n, ok, len(got.Tree.Old))
		}
	}
}

// Trees that show the same may have unlike room: both have to take the batch, and show the same again.
func TestStoreWhereTheTreeIsAnother(t *testing.T) {
	keeps := longKeeps()
	one := []impl.Write{{Key: "a", Value: "1"}}
	for _, c := range []struct {
		name  string
		batch []impl.Write
		want  bool
		why   string
	}{
		{"Gone alone, more than shown", one, false, "Spill finds 6 in Young; that Sink says true then is no help"},
		{"all is full, an empty Tree", one, false, "the log makes a tree that has no room"},
		{"Gone alone, more than shown in all", one, false, "the log shows it, the Tree nothing"},
		{"Gone alone, more than shown in all", []impl.Write{{Key: "a", Gone: true}}, true, "both show nothing"},
		{"tidied, and 280 behind it", one, false, "the Tree has 300, and would show nothing of 301; the log would show it"},
		{"Memory is full", one, true, "both are spilled and sunk, and show nothing of 301"},
		{"tidied, of Keys that are few", one, true, "both show it"},
		{"a batch more than Memory takes", one, true, "both show nothing, since there are more than 300"},
	} {
		k := keeps[c.name]
		if got, ok := checkStore(t, c.name, k, c.batch); ok != c.want || !ok && !sameKeep(got, k) {
			t.Errorf("%s: %v, though %s", c.name, ok, c.why)
		}
	}
}

// A tree that was tidied has other room than the log's: where it alone would have more than is shown, the Store is refused, and taken when it is tidied again.
func TestStoreIsTakenWhenItIsTidied(t *testing.T) {
	k := tidyByRule(openedByRule(logOf(narrowBatches(5)...)))
	refused := []int{}
	for i, batch := range narrowBatches(24) {
		next, ok := checkStore(t, fmt.Sprint(i), k, batch)
		if !ok {
			refused = append(refused, i)
			k = impl.Tidy(k)
			if next, ok = checkStore(t, fmt.Sprint(i, ", tidied"), k, batch); !ok {
				t.Fatal(i)
			}
		}
		k = next
	}
	if !slices.Equal(refused, []int{14}) {
		t.Fatal(refused)
	}
	// By now it is the log's that would have more: tidying is no help against that, and opening is.
	for name, x := range map[string]impl.Keep{"as it is": k, "tidied": impl.Tidy(k)} {
		if got, ok := checkStore(t, name, x, narrowBatches(1)[0]); ok || !sameKeep(got, x) {
			t.Error(name)
		}
	}
	if _, ok := checkStore(t, "opened", impl.Opened(k.Log), narrowBatches(1)[0]); !ok {
		t.Error("opened")
	}
}

// wantNothing asks that a Keep is answered as one that is not right.
func wantNothing(t *testing.T, name string, k impl.Keep) {
	t.Helper()
	zero := impl.Keep{}
	for what, batch := range map[string][]impl.Write{"one": {{Key: "q", Value: "x"}}, "nil": nil, "wrong": {{}}} {
		if got, ok := impl.Store(k, batch); ok || !sameKeep(got, zero) {
			t.Errorf("%s: Store of %s: %.100s, %v", name, what, asText(got), ok)
		}
	}
	if got := impl.Force(k); !sameKeep(got, zero) {
		t.Errorf("%s: Force: %.100s", name, asText(got))
	}
	for _, bytes := range []int64{math.MinInt64, -1, 0, 1, 50, int64(len(k.Log)), math.MaxInt64} {
		if got := impl.Fail(k, bytes); !sameKeep(got, zero) {
			t.Errorf("%s: Fail of %d: %.100s", name, bytes, asText(got))
		}
	}
	if got := impl.Tidy(k); !sameKeep(got, zero) {
		t.Errorf("%s: Tidy: %.100s", name, asText(got))
	}
	for _, key := range []string{"a", "b", "\n", "k", "", "k0000"} {
		if got, ok := impl.Look(k, key); got != "" || ok {
			t.Errorf("%s: Look of %q: %q, %v", name, key, got, ok)
		}
	}
}

func TestWrongKeepsAreAnsweredByNothing(t *testing.T) {
	for name, k := range wrongKeeps() {
		wantNothing(t, name, k)
	}
	log := logOf(batchesTaking(20001)...)
	tree := impl.Tree{}
	for _, batch := range batchesTaking(20001) {
		tree, _ = addedByRule(tree, batch)
	}
	wantNothing(t, "MaxLog + 1", impl.Keep{Log: log, Sure: 20000, Tree: tree})
}

func TestForce(t *testing.T) {
	for _, keeps := range []map[string]impl.Keep{rightKeeps(), longKeeps()} {
		for name, k := range keeps {
			got := impl.Force(k)
			if !sameKeep(got, forceByRule(k)) || got.Sure != int64(len(k.Log)) || !sameTree(got.Tree, k.Tree) || !impl.KeepOk(got) {
				t.Errorf("%s: %.100s", name, asText(got))
			}
			if again := impl.Force(got); !sameKeep(again, got) {
				t.Errorf("%s: twice: %.100s", name, asText(again))
			}
		}
	}
}

func TestFailOfForms(t *testing.T) {
	k, _ := impl.Store(impl.Keep{}, []impl.Write{{Key: "a", Value: "1"}})
	first := int64(len(k.Log))
	k = impl.Force(k)
	k, _ = impl.Store(k, []impl.Write{{Key: "a", Value: "2"}, {Key: "b", Value: "3"}})
	rest := int64(len(k.Log)) - first
	old := impl.Keep{Log: k.Log[:first], Sure: first, Tree: impl.Tree{Memory: []impl.Entry{written("a", "1", 1)}, Seq: 1}}
	all := impl.Keep{Log: k.Log, Sure: first + rest, Tree: impl.Tree{Memory: []impl.Entry{written("a", "2", 2), written("a", "1", 1), written("b", "3", 3)}, Seq: 3}}
	for _, bytes := range []int64{math.MinInt64, -rest, -first, -1, 0, 1, 2, rest / 2, rest - 1} {
		for name, x := range map[string]impl.Keep{"as it is": k, "tidied": impl.Tidy(k)} {
			if got := impl.Fail(x, bytes); !sameKeep(got, old) {
				t.Errorf("%s, %d: %v", name, bytes, got)
			}
		}
	}
	for _, bytes := range []int64{rest, rest + 1, 999, 20000, 1 << 32, math.MaxInt64 - 20000, math.MaxInt64 - first, math.MaxInt64} {
		for name, x := range map[string]impl.Keep{"as it is": k, "tidied": impl.Tidy(k)} {
			if got := impl.Fail(x, bytes); !sameKeep(got, all) {
				t.Errorf("%s, %d: %v", name, bytes, got)
			}
		}
	}
}

func TestFailOfRightKeeps(t *testing.T) {
	for name, k := range rightKeeps() {
		rest := int64(len(k.Log)) - k.Sure
		for _, bytes := range []int64{math.MinInt64, -1, 0, 1, rest / 3, rest / 2, rest - 1, rest, rest + 1, math.MaxInt64} {
			got := impl.Fail(k, bytes)
			if !sameKeep(got, failByRule(k, bytes)) || !impl.KeepOk(got) {
				t.Errorf("%s, %d: %.100s", name, bytes, asText(got))
			}
		}
	}
	for name, k := range longKeeps() {
		for _, bytes := range []int64{0, 137, int64(len(k.Log)) - 1, int64(len(k.Log))} {
			if got := impl.Fail(k, bytes); !sameKeep(got, failByRule(k, bytes)) {
				t.Errorf("%s, %d: %.100s", name, bytes, asText(got))
			}
		}
	}
}

// mapOf is what some first batches make, told without a tree.
func mapOf(batches [][]impl.Write) map[string]string {
	made := map[string]string{}
	for _, batch := range batches {
		for _, w := range batch {
			if w.Gone {
				delete(made, w.Key)
			} else {
				made[w.Key] = w.Value
			}
		}
	}
	return made
}

// kept is a Keep with the batches that it was given, told without a log: ends are where each of them ends there.
type kept struct {
	keep    impl.Keep
	batches [][]impl.Write
	ends    []int64
	sure    int64
}

func (x kept) end() int64 {
	if len(x.ends) == 0 {
		return 0
	}
	return x.ends[len(x.ends)-1]
}

func (x kept) stored(batch []impl.Write) (kept, bool) {
	keep, ok := impl.Store(x.keep, batch)
	if !ok {
		return kept{keep, x.batches, x.ends, x.sure}, false
	}
	end := x.end() + int64(len(recordByRule(batchTextByRule(batch))))
	return kept{keep, append(slices.Clone(x.batches), batch), append(slices.Clone(x.ends), end), x.sure}, true
}

func (x kept) forced() kept {
	return kept{impl.Force(x.keep), x.batches, x.ends, x.end()}
}

func (x kept) tidied() kept {
	return kept{impl.Tidy(x.keep), x.batches, x.ends, x.sure}
}

// failed has those batches left that lie in what is sure or in the first bytes behind it.
func (x kept) failed(bytes int64) kept {
	left := 0
	for left < len(x.ends) && x.ends[left] <= x.sure+bytes {
		left++
	}
	y := kept{impl.Fail(x.keep, bytes), x.batches[:left], x.ends[:left], 0}
	y.sure = y.end()
	return y
}

// check asks a Keep for what its batches made, and for nothing else.
func (x kept) check(t *testing.T, name string, keys []string) {
	t.Helper()
	if x.keep.Sure != x.sure || int64(len(x.keep.Log)) != x.end() || x.keep.Log != logOf(x.batches...) {
		t.Fatalf("%s: sure %d of %d, not %d of %d", name, x.keep.Sure, len(x.keep.Log), x.sure, x.end())
	}
	if x.keep.Tree.Seq != int64(len(slices.Concat(x.batches...))) {
		t.Fatalf("%s: Seq %d", name, x.keep.Tree.Seq)
	}
	made := mapOf(x.batches)
	for _, key := range keys {
		want, there := made[key]
		if got, is := impl.Look(x.keep, key); got != want || is != there {
			t.Fatalf("%s: %q is %q, %v, not %q, %v", name, key, got, is, want, there)
		}
	}
}

// Promise 11: wherever power fails, and whatever was sure then.
func TestWhatIsSureIsThere(t *testing.T) {
	keys := []string{"a", "b", "c", "d", "\n", " ", "\xff\x00", "nobody"}
	for sure := range 6 {
		x := kept{}
		for i, batch := range fewBatches() {
			if i == sure {
				x = x.forced()
			}
			next, ok := x.stored(batch)
			if !ok {
				t.Fatal(i)
			}
			x = next
		}
		if sure == 5 {
			x = x.forced()
		}
		for _, y := range []kept{x, x.tidied()} {
			left := map[int]int{}
			for bytes := int64(0); bytes <= x.end()-x.sure+1; bytes++ {
				z := y.failed(bytes)
				z.check(t, fmt.Sprint(sure, " sure, cut at ", bytes), keys)
				if len(z.batches) < sure || !sameKeep(z.keep, openedByRule(logOf(z.batches...))) {
					t.Fatalf("%d sure, cut at %d: %d are there", sure, bytes, len(z.batches))
				}
				left[len(z.batches)]++
			}
			if len(left) != 6-sure || left[5] != 2 {
				t.Fatal(sure, left)
			}
		}
	}
}

// What is sure need not end where a batch does: the part is none, and what was whole is there.
func TestFailWhereAPartIsSure(t *testing.T) {
	k := openedByRule(logOf(fewBatches()...))
	for sure := range int64(len(k.Log)) + 1 {
		x := impl.Keep{Log: k.Log, Sure: sure, Tree: k.Tree}
		for _, bytes := range []int64{-5, 0, 1, 7, 1000} {
			got := impl.Fail(x, bytes)
			if want := openedByRule(k.Log[:min(sure+max(bytes, 0), int64(len(k.Log)))]); !sameKeep(got, want) {
				t.Fatalf("%d sure, %d: %v", sure, bytes, got)
			}
		}
	}
}

// Whatever is stored, forced, tidied and cut in between.
func TestWhatIsSureIsThereInAnyScript(t *testing.T) {
	source := rand.New(rand.NewSource(42))
	keys := []string{"a", "aa", "b", "b\x00", "\n", "0 1\n\n"}
	done := map[string]int{}
	for range 120 {
		x := kept{}
		for range 14 {
			switch source.Intn(8) {
			case 0:
				x = x.forced()
				done["force"]++
			case 1:
				x = x.tidied()
				done["tidy"]++
			case 2:
				was := len(x.batches)
				x = x.failed(source.Int63n(x.end() - x.sure + 2))
				done[fmt.Sprint("fail, fewer: ", len(x.batches) < was)]++
			case 3:
				x.keep = impl.Opened(x.keep.Log + []string{"", "x", "3 1", "0 1\n\n"}[source.Intn(4)])
				x.sure = x.end()
				done["open"]++
			default:
				next, ok := x.stored(anyBatch(source, keys, source.Intn(6)))
				done[fmt.Sprint("store ", ok)]++
				x = next
			}
			x.check(t, "any script", append(keys, "nobody"))
		}
	}
	for _, step := range []string{"force", "tidy", "fail, fewer: true", "fail, fewer: false", "open", "store true", "store false"} {
		if done[step] < 40 {
			t.Error(step, done[step])
		}
	}
}

// The same with so many Writes that Memory is spilled and sunk on the way, and Stores are refused.
func TestWhatIsSureIsThereInLongScripts(t *testing.T) {
	source := rand.New(rand.NewSource(43))
	done := map[string]int{}
	for round := range 6 {
		keys := []string{}
		for i := range []int{8, 120, 900}[round%3] {
			keys = append(keys, string([]byte{byte('a' + i/200), byte(i)}))
		}
		x := kept{}
		for i := range 90 {
			switch source.Intn(30) {
			case 0:
				x = x.forced()
			case 1:
				x = x.tidied()
			case 2:
				x = x.failed(source.Int63n(x.end() - x.sure + 1))
			default:
				batch := []impl.Write{}
				for range 20 {
					batch = append(batch, impl.Write{Key: keys[source.Intn(len(keys))], Gone: source.Intn(9) == 0})
				}
				next, ok := x.stored(batch)
				done[fmt.Sprint(ok)]++
				if !ok && !sameKeep(next.keep, x.keep) {
					t.Fatal("refused, and changed")
				}
				if x = next; !ok {
					x = x.tidied()
				}
			}
			if i%15 == 14 {
				x.check(t, fmt.Sprint("long script ", round), append(keys[:5:5], keys[len(keys)-1], "nobody"))
			}
		}
		done[fmt.Sprint("Old: ", len(x.keep.Tree.Old) > 0)]++
	}
	if done["true"] < 200 || done["false"] < 3 || done["Old: true"] < 3 {
		t.Fatal(done)
	}
}

func TestTidyOfForms(t *testing.T) {
	log := logOf(fewBatches()[:3]...)
	a3, b5, c4 := written("a", "a3", 3), goneAt("b", 5), written("c", "c4", 4)
	memory := []impl.Entry{a3, written("a", "a1", 1), b5, written("b", "b2", 2), c4}
	sunk := impl.Tree{Old: []impl.Table{builtOf(a3, c4)}, Seq: 5}
	for name, c := range map[string]struct{ x, want impl.Tree }{
		"both say true":            {impl.Tree{Memory: memory, Seq: 5}, sunk},
		"Spill says false: empty":  {impl.Tree{Young: []impl.Table{builtOf(memory...)}, Seq: 5}, sunk},
		"both say false: empty":    {sunk, sunk},
		"Young and Memory":         {impl.Tree{Memory: []impl.Entry{b5, c4}, Young: []impl.Table{builtOf(a3), builtOf(written("b", "b2", 2))}, Seq: 5}, sunk},
		"Young, Old and Memory":    {impl.Tree{Memory: []impl.Entry{b5}, Young: []impl.Table{builtOf(a3)}, Old: []impl.Table{builtOf(written("a", "a1", 1), c4)}, Seq: 5}, sunk},
		"Old and Memory":           {impl.Tree{Memory: []impl.Entry{a3, b5}, Old: []impl.Table{builtOf(written("b", "b2", 2), c4)}, Seq: 5}, sunk},
		"Spill says false: 6":      {impl.Tree{Memory: []impl.Entry{a3}, Young: append(tablesGone(5), builtOf(c4)), Seq: 5}, impl.Tree{Memory: []impl.Entry{a3}, Old: []impl.Table{builtOf(c4)}, Seq: 5}},
		"Sink leaves nothing of 6": {impl.Tree{Memory: []impl.Entry{a3, c4}, Young: tablesGone(6), Seq: 5}, impl.Tree{Memory: []impl.Entry{a3, c4}, Seq: 5}},
	} {
		k := impl.Keep{Log: log, Sure: 7, Tree: c.x}
		if got := impl.Tidy(k); !sameKeep(got, impl.Keep{Log: log, Sure: 7, Tree: c.want}) || !sameKeep(got, tidyByRule(k)) {
			t.Errorf("%s: %v", name, got)
		}
	}
}

// tablesGone has n Tables in which one Key each is Gone.
func tablesGone(n int) []impl.Table {
	tables := []impl.Table{}
	for i := range n {
		tables = append(tables, builtOf(goneAt(fmt.Sprint("z", i), 1)))
	}
	return tables
}

func TestTidyOfRightKeeps(t *testing.T) {
	for _, keeps := range []map[string]impl.Keep{rightKeeps(), longKeeps()} {
		for name, k := range keeps {
			got := impl.Tidy(k)
			if !sameKeep(got, tidyByRule(k)) || got.Log != k.Log || got.Sure != k.Sure || got.Tree.Seq != k.Tree.Seq {
				t.Errorf("%s: %.200s", name, asText(got))
			}
		}
	}
	keeps := longKeeps()
	// Spill says true, and Sink false, since there are more than 300.
	tables := impl.Tidy(keeps["Tables that do not sink"])
	if len(tables.Tree.Memory) != 0 || len(tables.Tree.Young) != 2 || len(tables.Tree.Old) != 1 || !impl.KeepOk(tables) {
		t.Error(len(tables.Tree.Memory), len(tables.Tree.Young))
	}
	// Both say false.
	full := keeps["all is full"]
	if got := impl.Tidy(full); !sameKeep(got, full) {
		t.Error(len(got.Tree.Young))
	}
	// Spill says false, and Sink true: what is shown now was too much to be told, so that the Keep is not right any more; it is answered all the same.
	many := keeps["Gone alone, more than shown in all"]
	if got := impl.Tidy(many); impl.KeepOk(got) || len(got.Tree.Memory) != 250 || len(got.Tree.Young) != 0 || len(got.Tree.Old) != 1 || got.Log != many.Log {
		t.Error(len(got.Tree.Memory), len(got.Tree.Young), len(got.Tree.Old))
	}
}

// Tidying changes nothing of what is looked for.
func TestTidyChangesNoAnswer(t *testing.T) {
	for name, k := range rightKeeps() {
		tidied := impl.Tidy(k)
		if !impl.KeepOk(tidied) || len(tidied.Tree.Memory) > 0 || len(tidied.Tree.Young) > 0 {
			t.Errorf("%s: %.100s", name, asText(tidied))
		}
		for _, key := range append(keysOfTree(k.Tree), "", "nobody") {
			want, there := impl.Look(k, key)
			if got, is := impl.Look(tidied, key); got != want || is != there {
				t.Errorf("%s: %q: %q, %v", name, key, got, is)
			}
		}
		if again := impl.Tidy(tidied); !sameKeep(again, tidied) {
			t.Errorf("%s: twice: %.100s", name, asText(again))
		}
	}
}

func TestLookOfForms(t *testing.T) {
	k := openedByRule(logOf(fewBatches()...))
	for key, want := range map[string]string{"a": "a3", "c": "c10", "\n": "0 1\n\n", "\xff\x00": sized(60)} {
		for name, x := range map[string]impl.Keep{"as it is": k, "tidied": impl.Tidy(k), "forced": impl.Force(k), "not sure": {Log: k.Log, Tree: k.Tree}} {
			if got, is := impl.Look(x, key); got != want || !is {
				t.Errorf("%s: %q: %q, %v", name, key, got, is)
			}
		}
	}
	// One whose Value is empty is there.
	if got, is := impl.Look(k, " "); got != "" || !is {
		t.Errorf("%q, %v", got, is)
	}
	for _, key := range []string{"b", "d", "", "aa", "A", "\x00", "a\x00", sized(40), sized(41), strings.Repeat("\xff", 41)} {
		if got, is := impl.Look(k, key); got != "" || is {
			t.Errorf("%q: %q, %v", key, got, is)
		}
	}
	if got, is := impl.Look(impl.Keep{}, "a"); got != "" || is {
		t.Errorf("%q, %v", got, is)
	}
}

func TestLookOfRightKeeps(t *testing.T) {
	for name, k := range rightKeeps() {
		for _, key := range append(keysOfTree(k.Tree), "", "nobody", "g", sized(41)) {
			want, there := lookByRule(k, key)
			if got, is := impl.Look(k, key); got != want || is != there {
				t.Errorf("%s: %q: %q, %v", name, key, got, is)
			}
		}
	}
	for name, k := range longKeeps() {
		for _, key := range []string{"a", "k", "l", "g", "\x00\x00", "\x01\x2b", "\x09\x5f", "k0007", "y3", "nobody"} {
			want, there := lookByRule(k, key)
			if got, is := impl.Look(k, key); got != want || is != there {
				t.Errorf("%s: %q: %q, %v", name, key, got, is)
			}
		}
	}
}

// anyKeep is right as often as not: a log with the tree of another one, or a tree of another form.
func anyKeep(source *rand.Rand) impl.Keep {
	keys := []string{"a", "b", "\n"}
	k := impl.Keep{}
	for range source.Intn(5) {
		k, _ = storeByRule(k, anyBatch(source, keys, 1+source.Intn(4)))
		if source.Intn(4) == 0 {
			k = tidyByRule(k)
		}
	}
	k.Sure = int64(source.Intn(len(k.Log) + 1))
	switch source.Intn(12) {
	case 0:
		k.Log = string(changed(source, []byte(k.Log+"x")))
	case 1:
		k.Sure += source.Int63n(200) - 100
	case 2:
		k.Tree.Seq += source.Int63n(3) - 1
	case 3:
		k.Tree.Memory = inOrder(append(k.Tree.Memory, anyEntry(source, keys, 12)))
	case 4:
		k.Tree.Snaps = []int64{source.Int63n(4)}
	case 5:
		k.Tree.Memory = k.Tree.Memory[:source.Intn(len(k.Tree.Memory)+1)]
	case 6:
		k.Tree, _ = addedByRule(k.Tree, anyBatch(source, keys, 1))
	case 7:
		k.Log += logLine(anyBatch(source, keys, 1))
	}
	return k
}

func TestAnyKeepByTheRule(t *testing.T) {
	source := rand.New(rand.NewSource(44))
	said := map[bool]int{}
	for range 1500 {
		k := anyKeep(source)
		is := keepByRule(k)
		if got := impl.KeepOk(k); got != is {
			t.Fatalf("%v: %+v", got, k)
		}
		said[is]++
		batch := anyBatch(source, []string{"a", "c"}, source.Intn(3))
		want, done := storeByRule(k, batch)
		if got, ok := impl.Store(k, batch); ok != done || !sameKeep(got, want) {
			t.Fatalf("Store of %+v: %v: %+v: %+v", batch, ok, k, got)
		}
		bytes := source.Int63n(120) - 10
		if got := impl.Fail(k, bytes); !sameKeep(got, failByRule(k, bytes)) {
			t.Fatalf("Fail of %d: %+v: %+v", bytes, k, got)
		}
		if got := impl.Force(k); !sameKeep(got, forceByRule(k)) {
			t.Fatalf("Force: %+v: %+v", k, got)
		}
		if got := impl.Tidy(k); !sameKeep(got, tidyByRule(k)) {
			t.Fatalf("Tidy: %+v: %+v", k, got)
		}
		for _, key := range []string{"a", "b", "c", "\n"} {
			value, there := lookByRule(k, key)
			if got, is := impl.Look(k, key); got != value || is != there {
				t.Fatalf("Look of %q: %q, %v: %+v", key, got, is, k)
			}
		}
	}
	if said[true] < 300 || said[false] < 300 {
		t.Fatal(said)
	}
}

func roomyKeep(k impl.Keep) impl.Keep {
	return impl.Keep{Log: k.Log, Sure: k.Sure, Tree: roomyTree(k.Tree)}
}

// memoryKeeps has right and wrong Keeps, but not all of those with a Record that is no batch or a Tree that is wrong.
func memoryKeeps() map[string]impl.Keep {
	keeps := rightKeeps()
	for name, k := range wrongKeeps() {
		if !strings.HasPrefix(name, "no batch") && !strings.HasPrefix(name, "wrong Tree") {
			keeps["wrong: "+name] = k
		}
	}
	for name, k := range longKeeps() {
		keeps["long: "+name] = k
	}
	return keeps
}

// keepAnswers are all functions of the chapter, each with a Keep and a batch as its arguments.
func keepAnswers() map[string]func(impl.Keep, []impl.Write) any {
	type stored struct {
		Keep impl.Keep
		Is   bool
	}
	return map[string]func(impl.Keep, []impl.Write) any{
		"KeepOk":  func(k impl.Keep, _ []impl.Write) any { return impl.KeepOk(k) },
		"Opened":  func(k impl.Keep, _ []impl.Write) any { return impl.Opened(k.Log) },
		"Store":   func(k impl.Keep, b []impl.Write) any { y, is := impl.Store(k, b); return stored{y, is} },
		"Force":   func(k impl.Keep, _ []impl.Write) any { return impl.Force(k) },
		"Fail, 0": func(k impl.Keep, _ []impl.Write) any { return impl.Fail(k, 0) },
		"Fail, 9": func(k impl.Keep, _ []impl.Write) any { return impl.Fail(k, 9) },
		"Fail":    func(k impl.Keep, _ []impl.Write) any { return impl.Fail(k, math.MaxInt64) },
		"Tidy":    func(k impl.Keep, _ []impl.Write) any { return impl.Tidy(k) },
		"Look":    func(k impl.Keep, _ []impl.Write) any { y, is := impl.Look(k, "a"); return fmt.Sprint(y, is) },
	}
}

// keepCases goes through the functions and Keeps, with batches that are taken and refused.
func keepCases(with func(name string, k impl.Keep, batch []impl.Write, answer func(impl.Keep, []impl.Write) any)) {
	batches := [][]impl.Write{nil, {{Key: "b", Value: "new"}, {Key: "a", Gone: true}}, {{Key: "b"}, {}}, batchOf(20)}
	for name, k := range memoryKeeps() {
		for what, answer := range keepAnswers() {
			for _, batch := range batches {
				with(name+": "+what, k, batch, answer)
				if what != "Store" {
					break
				}
			}
		}
	}
}

func TestKeepsLeaveTheirArguments(t *testing.T) {
	keepCases(func(name string, k impl.Keep, batch []impl.Write, answer func(impl.Keep, []impl.Write) any) {
		wide, more := roomyKeep(k), roomy(batch, batchOf(5)...)
		lie := slices.Concat(spansOf(reflect.ValueOf(wide)), spansOf(reflect.ValueOf(more)))
		keep, writes := withItsRoom(reflect.ValueOf(wide)), withItsRoom(reflect.ValueOf(more))
		got := answer(wide, more)
		if asText(got) != asText(answer(keepClone(k), slices.Clip(slices.Clone(batch)))) {
			t.Fatalf("%s hangs on the room", name)
		}
		if !reflect.DeepEqual(withItsRoom(reflect.ValueOf(wide)).Interface(), keep.Interface()) || !reflect.DeepEqual(withItsRoom(reflect.ValueOf(more)).Interface(), writes.Interface()) {
			t.Fatalf("%s changed an argument", name)
		}
		if !slices.Equal(lie, slices.Concat(spansOf(reflect.ValueOf(wide)), spansOf(reflect.ValueOf(more)))) {
			t.Fatalf("%s moved a list of an argument", name)
		}
	})
}

func TestKeepsGiveNewMemory(t *testing.T) {
	keepCases(func(name string, k impl.Keep, batch []impl.Write, answer func(impl.Keep, []impl.Write) any) {
		wide, more := roomyKeep(k), roomy(batch, batchOf(5)...)
		first := answer(wide, more)
		second := answer(wide, more)
		if sharesMemory(first, wide, more, second) || sharesMemory(second, wide, more) {
			t.Fatalf("%s shares memory", name)
		}
	})
}

// A log that was opened may go, and be written over.
func TestOpenedSharesNothingWithTheLog(t *testing.T) {
	for name, k := range rightKeeps() {
		for _, log := range []string{k.Log, k.Log + "x", k.Log + "0 1\n\n"} {
			data := []byte(log)
			got := impl.Opened(aliased(data))
			want := openedByRule(log)
			if string(data) != log {
				t.Fatalf("%s: the log was changed", name)
			}
			clear(data)
			if !sameKeep(got, want) {
				t.Fatalf("%s: the log was cleared, and the answer with it", name)
			}
		}
	}
}
