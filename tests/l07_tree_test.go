package tests

import (
	"cmp"
	"fmt"
	"math"
	"math/rand"
	"reflect"
	"slices"
	"strings"
	"testing"

	"loop.example/g00217/impl"
)

func builtOf(list ...impl.Entry) impl.Table {
	x, ok := builtByRule(list)
	if !ok {
		panic("no table of these")
	}
	return x
}

// inOrder has entries as a list has them.
func inOrder(list []impl.Entry) []impl.Entry {
	return slices.SortedFunc(slices.Values(list), func(a, b impl.Entry) int {
		return cmp.Or(strings.Compare(a.Key, b.Key), cmp.Compare(b.Seq, a.Seq))
	})
}

// shifted has the same entries with greater Seqs.
func shifted(list []impl.Entry, by int64) []impl.Entry {
	list = slices.Clone(list)
	for i := range list {
		list[i].Seq += by
	}
	return list
}

func tablesClone(list []impl.Table) []impl.Table {
	cloned := []impl.Table{}
	for _, x := range list {
		cloned = append(cloned, tableClone(x))
	}
	return slices.Clip(cloned)
}

func treeClone(x impl.Tree) impl.Tree {
	return impl.Tree{Memory: slices.Clip(slices.Clone(x.Memory)), Young: tablesClone(x.Young), Old: tablesClone(x.Old), Seq: x.Seq, Snaps: slices.Clip(slices.Clone(x.Snaps))}
}

func sameTree(a impl.Tree, b impl.Tree) bool {
	return a.Seq == b.Seq && slices.Equal(a.Memory, b.Memory) && slices.Equal(a.Snaps, b.Snaps) && slices.EqualFunc(a.Young, b.Young, sameTable) && slices.EqualFunc(a.Old, b.Old, sameTable)
}

// listsByRule has Memory, and all entries of each table; none where one is not right.
func listsByRule(x impl.Tree) ([][]impl.Entry, bool) {
	lists := [][]impl.Entry{x.Memory}
	for _, table := range slices.Concat(x.Young, x.Old) {
		list, ok := entriesOfTable(table)
		if !ok {
			return nil, false
		}
		lists = append(lists, list)
	}
	return lists, entriesByRule(x.Memory)
}

// treeByRule asks what chapter 7 asks of a tree, of each two entries.
func treeByRule(x impl.Tree) bool {
	lists, ok := listsByRule(x)
	if !ok || len(x.Young) > 6 || len(x.Old) > 1 || len(x.Snaps) > 10 || x.Seq < 0 || x.Seq > 1000000 {
		return false
	}
	for i, snap := range x.Snaps {
		if snap < 0 || snap > x.Seq || i > 0 && x.Snaps[i-1] >= snap {
			return false
		}
	}
	type place struct {
		key string
		seq int64
	}
	there, greatest := map[place]int{}, map[string]int64{}
	for i, list := range lists {
		for _, e := range list {
			there[place{e.Key, e.Seq}]++
			if there[place{e.Key, e.Seq}] > 1 || e.Seq > x.Seq {
				return false
			}
			if i > 0 {
				greatest[e.Key] = max(greatest[e.Key], e.Seq)
			}
		}
	}
	return !slices.ContainsFunc(x.Memory, func(e impl.Entry) bool { return e.Seq <= greatest[e.Key] })
}

func batchByRule(batch []impl.Write) bool {
	for _, w := range batch {
		if !entriesByRule([]impl.Entry{{Key: w.Key, Value: w.Value, Gone: w.Gone, Seq: 1}}) {
			return false
		}
	}
	return len(batch) <= 20
}

func wroteByRule(x impl.Tree, batch []impl.Write) (impl.Tree, bool) {
	if !treeByRule(x) {
		return impl.Tree{}, false
	}
	if !batchByRule(batch) || len(x.Memory)+len(batch) > 300 || x.Seq+int64(len(batch)) > 1000000 {
		return x, false
	}
	x = treeClone(x)
	for _, w := range batch {
		x.Seq++
		x.Memory = append(x.Memory, impl.Entry{Key: w.Key, Value: w.Value, Seq: x.Seq, Gone: w.Gone})
	}
	x.Memory = inOrder(x.Memory)
	return x, true
}

func readByRule(x impl.Tree, key string, seq int64) (string, bool) {
	if !treeByRule(x) {
		return "", false
	}
	lists, _ := listsByRule(x)
	e, is := seenByRule(slices.Concat(lists...), key, seq)
	if !is || e.Gone {
		return "", false
	}
	return e.Value, true
}

func scanByRule(x impl.Tree, from string, to string, seq int64) []impl.Entry {
	lists, _ := listsByRule(x)
	all := slices.Concat(lists...)
	if !treeByRule(x) || len(all) > 300 {
		return nil
	}
	return slices.DeleteFunc(shownByRule(all, seq), func(e impl.Entry) bool { return e.Key < from || e.Key >= to })
}

func spillByRule(x impl.Tree) (impl.Tree, bool) {
	if !treeByRule(x) {
		return impl.Tree{}, false
	}
	if len(x.Memory) == 0 || len(x.Young) == 6 {
		return x, false
	}
	y := treeClone(x)
	y.Memory, y.Young = nil, slices.Concat([]impl.Table{builtOf(x.Memory...)}, x.Young)
	return y, true
}

func sinkByRule(x impl.Tree) (impl.Tree, bool) {
	if !treeByRule(x) {
		return impl.Tree{}, false
	}
	lists, _ := listsByRule(x)
	all := inOrder(slices.Concat(lists[1:]...))
	if len(x.Young) == 0 || len(all) > 300 {
		return x, false
	}
	y := treeClone(x)
	y.Young, y.Old = nil, nil
	if left := bottomByRule(all, append(slices.Clone(x.Snaps), x.Seq)); len(left) > 0 {
		y.Old = []impl.Table{builtOf(left...)}
	}
	return y, true
}

func snapByRule(x impl.Tree) (impl.Tree, int64) {
	if !treeByRule(x) {
		return impl.Tree{}, -1
	}
	if len(x.Snaps) == 10 {
		return x, -1
	}
	y := treeClone(x)
	y.Snaps = slices.Compact(append(y.Snaps, x.Seq))
	return y, x.Seq
}

func freeByRule(x impl.Tree, snap int64) (impl.Tree, bool) {
	if !treeByRule(x) {
		return impl.Tree{}, false
	}
	y := treeClone(x)
	y.Snaps = slices.DeleteFunc(y.Snaps, func(n int64) bool { return n == snap })
	return y, len(y.Snaps) < len(x.Snaps)
}

// layers is a tree with something everywhere: Keys in all layers, Gone ones in all but the lowest.
func layers() impl.Tree {
	return impl.Tree{
		Memory: []impl.Entry{goneAt("a", 12), written("a", "a11", 11), written("d", "d13", 13), written("g", "g14", 14)},
		Young: []impl.Table{
			builtOf(written("b", "b8", 8), goneAt("c", 9), written("f", "", 10)),
			builtOf(written("a", "a5", 5), goneAt("b", 6), written("e", "e7", 7)),
		},
		Old:   []impl.Table{builtOf(written("a", "a1", 1), written("b", "b2", 2), written("c", "c3", 3), written("d", "d4", 4))},
		Seq:   14,
		Snaps: []int64{4, 7, 10},
	}
}

// layersRead has what is read of layers from a Seq on, until the next one of its Key.
func layersRead() map[string][]impl.Entry {
	return map[string][]impl.Entry{
		"a": {written("a", "a1", 1), written("a", "a5", 5), written("a", "a11", 11), goneAt("a", 12)},
		"b": {written("b", "b2", 2), goneAt("b", 6), written("b", "b8", 8)},
		"c": {written("c", "c3", 3), goneAt("c", 9)},
		"d": {written("d", "d4", 4), written("d", "d13", 13)},
		"e": {written("e", "e7", 7)},
		"f": {written("f", "", 10)},
		"g": {written("g", "g14", 14)},
	}
}

// tablesOf has n tables of one Key each, all of them unlike, with Seqs from 1 on.
func tablesOf(n int) []impl.Table {
	tables := []impl.Table{}
	for i := range n {
		tables = append(tables, builtOf(written(fmt.Sprint("t", i), "x", int64(i+1))))
	}
	return tables
}

// fullTree has as much everywhere as there may be: each layer has all Keys again.
func fullTree() impl.Tree {
	x := impl.Tree{Seq: 1000000, Snaps: []int64{0, 1, 300, 301, 2399, 2400, 2401, 999998, 999999, 1000000}}
	for i := range int64(6) {
		x.Young = append(x.Young, builtOf(shifted(numbered(300), 300*(6-i))...))
	}
	x.Old = []impl.Table{builtOf(numbered(300)...)}
	x.Memory = shifted(numbered(300), 999700)
	return x
}

// rising has n numbers from one on.
func rising(from int64, n int) []int64 {
	list := []int64{}
	for i := range int64(n) {
		list = append(list, from+i)
	}
	return list
}

// rightTrees has trees that are TreeOk.
func rightTrees() map[string]impl.Tree {
	a5, b5 := builtOf(written("a", "x", 5)), builtOf(written("b", "x", 5))
	old, young := builtOf(written("k", "1", 1), written("l", "2", 2)), builtOf(written("k", "3", 3), written("l", "4", 4))
	trees := map[string]impl.Tree{
		"zero Tree":                     {},
		"empty lists":                   {Memory: []impl.Entry{}, Young: []impl.Table{}, Old: []impl.Table{}, Snaps: []int64{}},
		"nothing, Seq 1":                {Seq: 1},
		"nothing, Seq MaxSeq":           {Seq: 1000000},
		"nothing, Snap 0":               {Snaps: []int64{0}},
		"layers":                        layers(),
		"full":                          fullTree(),
		"Memory, its Seq":               {Memory: stones(), Seq: 9},
		"Memory, a greater Seq":         {Memory: stones(), Seq: 10},
		"Young, its Seq":                {Young: []impl.Table{builtOf(stones()...)}, Seq: 9},
		"Old, its Seq":                  {Old: []impl.Table{builtOf(stones()...)}, Seq: 9},
		"5 in Young":                    {Young: tablesOf(5), Seq: 5, Memory: []impl.Entry{written("m", "x", 5)}},
		"6 in Young":                    {Young: tablesOf(6), Seq: 6, Memory: []impl.Entry{written("m", "x", 6)}},
		"6 in Young, 1 in Old":          {Young: tablesOf(7)[:6], Old: tablesOf(7)[6:], Seq: 7},
		"1 in Old":                      {Old: tablesOf(1), Seq: 1},
		"10 Snaps":                      {Seq: 9, Snaps: rising(0, 10)},
		"10 Snaps, a greater Seq":       {Seq: 20, Snaps: rising(0, 10)},
		"9 Snaps":                       {Seq: 9, Snaps: rising(0, 9)},
		"9 Snaps, up to Seq":            {Seq: 9, Snaps: rising(1, 9)},
		"Snaps at both ends":            {Seq: 1000000, Snaps: []int64{0, 1000000}},
		"one Seq, two Keys, two Tables": {Young: []impl.Table{a5, b5}, Seq: 5},
		"one Seq, Memory and a Table":   {Memory: []impl.Entry{written("b", "x", 5)}, Young: []impl.Table{a5}, Seq: 5},
		"one Key, greater in Memory":    {Memory: []impl.Entry{written("a", "x", 7), written("a", "x", 6)}, Young: []impl.Table{a5}, Seq: 7},
		"other Keys, lesser in Memory":  {Memory: []impl.Entry{written("b", "x", 1), written("b\x00", "x", 2)}, Old: []impl.Table{a5}, Seq: 7},
		"the newest Table first":        {Young: []impl.Table{young, old}, Seq: 4},
		"the newest Table last":         {Young: []impl.Table{old, young}, Seq: 4},
		"the newest Table below":        {Young: []impl.Table{old}, Old: []impl.Table{young}, Seq: 4},
		"one Key in turn":               {Young: []impl.Table{builtOf(written("k", "7", 7), goneAt("k", 3)), builtOf(goneAt("k", 5), written("k", "1", 1))}, Seq: 7, Snaps: []int64{1, 3, 5}},
		"Gone alone":                    {Young: []impl.Table{builtOf(goneAt("k", 3)), builtOf(goneAt("k", 2), goneAt("l", 1))}, Seq: 3, Snaps: []int64{1, 2}},
		"Gone over written":             {Young: []impl.Table{builtOf(goneAt("k", 3))}, Old: []impl.Table{builtOf(written("k", "x", 2))}, Seq: 3},
		"Gone, in Memory too":           {Memory: []impl.Entry{written("k", "x", 4)}, Young: []impl.Table{builtOf(goneAt("k", 3))}, Seq: 4},
		"300 in Tables, more in Memory": {Memory: shifted(numbered(9), 300), Young: []impl.Table{builtOf(numbered(300)[100:]...)}, Old: []impl.Table{builtOf(numbered(300)[:100]...)}, Seq: 309},
		"301 in Tables":                 {Young: []impl.Table{builtOf(numbered(301)[:1]...)}, Old: []impl.Table{builtOf(numbered(301)[1:]...)}, Seq: 301},
		"300 in all":                    {Memory: numbered(300)[:100], Young: []impl.Table{builtOf(numbered(300)[100:200]...)}, Old: []impl.Table{builtOf(numbered(300)[200:]...)}, Seq: 300},
		"301 in all":                    {Memory: numbered(301)[:100], Young: []impl.Table{builtOf(numbered(301)[100:200]...)}, Old: []impl.Table{builtOf(numbered(301)[200:]...)}, Seq: 301},
		"Table in Blocks of 3":          {Young: []impl.Table{tableOf(inGroups(stones(), 3)...)}, Seq: 9},
	}
	for name, list := range rightLists() {
		trees["Memory: "+name] = impl.Tree{Memory: list, Seq: 1000000, Snaps: []int64{3, 7}}
		if len(list) > 0 && len(list) < 300 {
			trees["Young: "+name] = impl.Tree{Young: []impl.Table{builtOf(list...)}, Seq: 1000000, Snaps: []int64{3, 7}}
			trees["Old: "+name] = impl.Tree{Memory: []impl.Entry{written("new", "x", 1000000)}, Old: []impl.Table{builtOf(list...)}, Seq: 1000000}
		}
	}
	return trees
}

// wrongTrees has trees that are not.
func wrongTrees() map[string]impl.Tree {
	a5, another, b5 := builtOf(written("a", "x", 5)), builtOf(goneAt("a", 5)), builtOf(written("b", "x", 5))
	a95 := builtOf(written("a", "x", 9), written("a", "x", 5))
	both := builtOf(written("a", "x", 5), written("b", "x", 5))
	in := func(e ...impl.Entry) []impl.Entry { return e }
	trees := map[string]impl.Tree{
		"7 in Young":                       {Young: tablesOf(7), Seq: 7},
		"8 in Young":                       {Young: tablesOf(8), Seq: 8},
		"2 in Old":                         {Old: tablesOf(2), Seq: 2},
		"2 in Old, 1 in Young":             {Young: tablesOf(3)[:1], Old: tablesOf(3)[1:], Seq: 3},
		"7 in Old":                         {Old: tablesOf(7), Seq: 7},
		"Seq below Memory's":               {Memory: stones(), Seq: 8},
		"Seq 0, something in Memory":       {Memory: in(written("k", "x", 1))},
		"Seq below that of a middle one":   {Memory: in(written("a", "x", 1), written("b", "x", 9), written("c", "x", 2)), Seq: 8},
		"Seq below Young's":                {Young: []impl.Table{builtOf(stones()...)}, Seq: 8},
		"Seq below the last of Young":      {Young: []impl.Table{builtOf(written("k", "x", 3)), builtOf(written("l", "x", 4))}, Seq: 3},
		"Seq below Old's":                  {Old: []impl.Table{builtOf(stones()...)}, Seq: 8},
		"Seq below Old's, above all other": {Memory: in(written("m", "x", 5)), Young: []impl.Table{a5}, Old: []impl.Table{builtOf(written("z", "x", 9))}, Seq: 8},
		"Seq -1":                           {Seq: -1},
		"Seq least of all":                 {Seq: math.MinInt64},
		"Seq MaxSeq + 1":                   {Seq: 1000001},
		"Seq greatest of all":              {Seq: math.MaxInt64},
		"Seq past 32 bits":                 {Seq: 1<<32 + 9, Memory: stones()},
		"11 Snaps":                         {Seq: 10, Snaps: rising(0, 11)},
		"11 Snaps, a greater Seq":          {Seq: 100, Snaps: rising(0, 11)},
		"100 Snaps":                        {Seq: 100, Snaps: rising(0, 100)},
		"Snaps that fall":                  {Seq: 9, Snaps: []int64{5, 4}},
		"Snaps that fall at the end":       {Seq: 9, Snaps: []int64{1, 5, 7, 6}},
		"Snaps alike":                      {Seq: 9, Snaps: []int64{5, 5}},
		"Snaps alike, 0":                   {Seq: 9, Snaps: []int64{0, 0}},
		"Snaps alike at the end":           {Seq: 9, Snaps: []int64{1, 5, 9, 9}},
		"Snap -1":                          {Seq: 9, Snaps: []int64{-1}},
		"Snap -1, others behind":           {Seq: 9, Snaps: []int64{-1, 0, 4}},
		"Snap least of all":                {Seq: 9, Snaps: []int64{math.MinInt64, 4}},
		"Snap past Seq":                    {Seq: 9, Snaps: []int64{10}},
		"Snap past Seq, others ahead":      {Seq: 9, Snaps: []int64{0, 4, 10}},
		"Snap 1 of the zero Tree":          {Snaps: []int64{1}},
		"Snap greatest of all":             {Seq: 9, Snaps: []int64{math.MaxInt64}},
		"twice: Memory and Young":          {Memory: in(written("a", "x", 5)), Young: []impl.Table{a5}, Seq: 9},
		"twice: Memory and Young, unlike":  {Memory: in(written("a", "x", 5)), Young: []impl.Table{another}, Seq: 9},
		"twice: Memory and Old":            {Memory: in(written("a", "x", 5)), Old: []impl.Table{a5}, Seq: 9},
		"twice: Memory and the last":       {Memory: in(written("t5", "x", 6)), Young: tablesOf(6), Seq: 9},
		"twice: a newer one in Memory":     {Memory: in(written("a", "x", 9), written("a", "x", 5)), Young: []impl.Table{a5}, Seq: 9},
		"twice: two of Young":              {Young: []impl.Table{a5, a5}, Seq: 9},
		"twice: two of Young, unlike":      {Young: []impl.Table{a5, another}, Seq: 9},
		"twice: two of Young, apart":       {Young: []impl.Table{a5, b5, builtOf(written("c", "x", 5)), another}, Seq: 9},
		"twice: Young and Old":             {Young: []impl.Table{a5}, Old: []impl.Table{a5}, Seq: 9},
		"twice: Young and Old, unlike":     {Young: []impl.Table{another}, Old: []impl.Table{a5}, Seq: 9},
		"twice: one of more":               {Young: []impl.Table{both, b5}, Seq: 9},
		"twice: the oldest of more":        {Young: []impl.Table{a95}, Old: []impl.Table{a5}, Seq: 9},
		"Memory older than Young":          {Memory: in(written("a", "x", 4)), Young: []impl.Table{a5}, Seq: 9},
		"Memory older than Old":            {Memory: in(written("a", "x", 4)), Old: []impl.Table{a5}, Seq: 9},
		"Memory older than the last":       {Memory: in(written("t5", "x", 5)), Young: tablesOf(6), Seq: 9},
		"Memory newer and older":           {Memory: in(written("a", "x", 8), written("a", "x", 4)), Young: []impl.Table{a5}, Seq: 9},
		"Memory between":                   {Memory: in(written("a", "x", 7)), Young: []impl.Table{a95}, Seq: 9},
		"Memory older, Gone":               {Memory: in(goneAt("a", 1)), Young: []impl.Table{another}, Seq: 9},
		"Memory older of one Key of two":   {Memory: in(written("a", "x", 8), written("b", "x", 4)), Young: []impl.Table{both}, Seq: 9},
		"Memory older than one of two":     {Memory: in(written("a", "x", 7)), Young: []impl.Table{a5, builtOf(written("a", "x", 8))}, Seq: 9},
	}
	for name, list := range wrongLists() {
		trees["Memory: "+name] = impl.Tree{Memory: list, Seq: 1000000}
	}
	for name, table := range wrongTables() {
		if strings.Contains(name, "Bits and") {
			continue
		}
		trees["Young: "+name] = impl.Tree{Young: []impl.Table{table}, Seq: 1000000}
		trees["Young, the last: "+name] = impl.Tree{Memory: stones(), Young: append(tablesOf(2), table), Seq: 1000000}
		trees["Old: "+name] = impl.Tree{Old: []impl.Table{table}, Seq: 1000000}
	}
	return trees
}

func TestTreeOkOfRightTrees(t *testing.T) {
	for name, x := range rightTrees() {
		if !impl.TreeOk(x) || !treeByRule(x) {
			t.Errorf("%s: refused", name)
		}
	}
}

func TestTreeOkOfWrongTrees(t *testing.T) {
	for name, x := range wrongTrees() {
		if impl.TreeOk(x) || treeByRule(x) {
			t.Errorf("%s: taken", name)
		}
	}
}

func TestWrongTreesAreAnsweredByNothing(t *testing.T) {
	zero := impl.Tree{}
	for name, x := range wrongTrees() {
		for what, batch := range map[string][]impl.Write{"nil": nil, "one": {{Key: "q", Value: "x"}}, "wrong": {{}}} {
			if got, ok := impl.Wrote(x, batch); ok || !sameTree(got, zero) {
				t.Errorf("%s: Wrote of %s: %v, %v", name, what, got, ok)
			}
		}
		for _, seq := range []int64{0, 5, 9, 1000000, math.MaxInt64} {
			for _, key := range []string{"a", "b", "k", "k0000", ""} {
				if got, ok := impl.Read(x, key, seq); ok || got != "" {
					t.Errorf("%s: %q at %d: %q, %v", name, key, seq, got, ok)
				}
			}
			if got := impl.Scan(x, "", "\xff\xff", seq); len(got) != 0 {
				t.Errorf("%s: Scan at %d: %v", name, seq, got)
			}
		}
		if got, ok := impl.Spill(x); ok || !sameTree(got, zero) {
			t.Errorf("%s: Spill: %v, %v", name, got, ok)
		}
		if got, ok := impl.Sink(x); ok || !sameTree(got, zero) {
			t.Errorf("%s: Sink: %v, %v", name, got, ok)
		}
		if got, n := impl.Snap(x); n != -1 || !sameTree(got, zero) {
			t.Errorf("%s: Snap: %v, %d", name, got, n)
		}
		for _, snap := range append([]int64{0, 5, -1}, x.Snaps...) {
			if got, ok := impl.Free(x, snap); ok || !sameTree(got, zero) {
				t.Errorf("%s: Free of %d: %v, %v", name, snap, got, ok)
			}
		}
	}
}

// batchOf has n Writes, some of one Key.
func batchOf(n int) []impl.Write {
	batch := []impl.Write{}
	for i := range n {
		batch = append(batch, impl.Write{Key: fmt.Sprint("w", i%7), Value: fmt.Sprint(i)})
	}
	return batch
}

// rightBatches has batches that are as chapter 7 tells.
func rightBatches() map[string][]impl.Write {
	batches := map[string][]impl.Write{
		"nil":                nil,
		"none":               {},
		"one":                batchOf(1),
		"19":                 batchOf(19),
		"20":                 batchOf(20),
		"one Key 20 times":   slices.Repeat([]impl.Write{{Key: "a", Value: "again"}}, 20),
		"one Key, then Gone": {{Key: "a", Value: "x"}, {Key: "a", Gone: true}},
		"Gone, then one Key": {{Key: "a", Gone: true}, {Key: "a", Value: "x"}},
		"out of order":       {{Key: "z"}, {Key: "a", Value: "1"}, {Key: "m", Gone: true}, {Key: "a", Value: "2"}, {Key: "\xff"}, {Key: "\x00"}},
	}
	for name, e := range rightEntries() {
		batches[name] = []impl.Write{{Key: e.Key, Value: e.Value, Gone: e.Gone}}
	}
	return batches
}

// wrongBatches has batches that are not, alone and among others.
func wrongBatches() map[string][]impl.Write {
	batches := map[string][]impl.Write{
		"21":             batchOf(21),
		"22":             batchOf(22),
		"300":            batchOf(300),
		"21 of one Key":  slices.Repeat([]impl.Write{{Key: "a", Value: "again"}}, 21),
		"21 zero Writes": make([]impl.Write, 21),
	}
	for name, e := range wrongEntries() {
		w := impl.Write{Key: e.Key, Value: e.Value, Gone: e.Gone}
		if batchByRule([]impl.Write{w}) {
			// Its Seq alone is wrong, and a Write has none.
			continue
		}
		batches[name] = []impl.Write{w}
		batches[name+", first"] = append([]impl.Write{w}, batchOf(3)...)
		batches[name+", last"] = append(batchOf(19), w)
		batches[name+", between"] = slices.Insert(batchOf(8), 4, w)
	}
	return batches
}

func TestWroteOfForms(t *testing.T) {
	x, ok := impl.Wrote(impl.Tree{}, []impl.Write{{Key: "b", Value: "1"}, {Key: "a", Value: "2"}, {Key: "b", Value: "3"}, {Key: "c", Gone: true}})
	want := impl.Tree{Memory: []impl.Entry{written("a", "2", 2), written("b", "3", 3), written("b", "1", 1), goneAt("c", 4)}, Seq: 4}
	if !ok || !sameTree(x, want) {
		t.Fatal(x, ok)
	}
	for seq, value := range []string{"", "1", "1", "3", "3"} {
		if got, is := impl.Read(x, "b", int64(seq)); got != value || is != (value != "") {
			t.Fatal(seq, got, is)
		}
	}
	x, ok = impl.Wrote(layers(), []impl.Write{{Key: "a", Value: "a15"}, {Key: "a", Value: "a16"}, {Key: "c", Value: "c17"}, {Key: "d", Gone: true}})
	want = layers()
	want.Seq = 18
	want.Memory = []impl.Entry{
		written("a", "a16", 16), written("a", "a15", 15), goneAt("a", 12), written("a", "a11", 11),
		written("c", "c17", 17), goneAt("d", 18), written("d", "d13", 13), written("g", "g14", 14),
	}
	if !ok || !sameTree(x, want) {
		t.Fatal(x, ok)
	}
}

func TestWroteOfRightBatches(t *testing.T) {
	for name, batch := range rightBatches() {
		for _, x := range []impl.Tree{{}, layers(), {Seq: 999980}, {Memory: numbered(280), Seq: 280}} {
			want, _ := wroteByRule(x, batch)
			got, ok := impl.Wrote(x, batch)
			if !ok || !sameTree(got, want) || !impl.TreeOk(got) || got.Seq != x.Seq+int64(len(batch)) {
				t.Fatalf("%s: %v, %v", name, got, ok)
			}
			// Of one Key the later Write is read, and each one at its own Seq.
			for i, w := range batch {
				if value, is := impl.Read(got, w.Key, x.Seq+int64(i)+1); value != w.Value || is == w.Gone {
					t.Fatalf("%s: number %d is read as %q, %v", name, i, value, is)
				}
			}
		}
	}
}

func TestWroteOfWrongBatches(t *testing.T) {
	for name, batch := range wrongBatches() {
		for _, x := range []impl.Tree{{}, layers(), {Memory: numbered(300), Seq: 300}, {Seq: 1000000}} {
			if got, ok := impl.Wrote(x, batch); ok || !sameTree(got, x) {
				t.Errorf("%s: %v, %v", name, got, ok)
			}
		}
	}
}

func TestWroteWhereThereIsRoom(t *testing.T) {
	for _, c := range []struct {
		memory int
		seq    int64
		batch  int
		want   bool
	}{
		{280, 280, 20, true}, {281, 281, 20, false}, {281, 281, 19, true}, {290, 500, 10, true}, {290, 500, 11, false},
		{299, 299, 1, true}, {299, 299, 2, false}, {299, 299, 20, false}, {299, 299, 0, true},
		{300, 300, 0, true}, {300, 300, 1, false}, {300, 300, 20, false},
		{0, 999980, 20, true}, {0, 999981, 20, false}, {0, 999981, 19, true}, {7, 999999, 1, true}, {7, 999999, 2, false},
		{7, 1000000, 0, true}, {7, 1000000, 1, false}, {0, 1000000, 20, false}, {300, 1000000, 1, false}, {300, 1000000, 0, true},
	} {
		for _, tables := range [][]impl.Table{nil, {builtOf(written("t", "x", 1))}, tablesOf(6)} {
			x := impl.Tree{Memory: numbered(c.memory), Young: tables, Seq: max(c.seq, 6), Snaps: []int64{0, 3}}
			want, is := wroteByRule(x, batchOf(c.batch))
			got, ok := impl.Wrote(x, batchOf(c.batch))
			if ok != c.want || is != c.want || !sameTree(got, want) {
				t.Errorf("%d of %d, %d: %d entries, %d, %v", c.batch, c.memory, c.seq, len(got.Memory), got.Seq, ok)
			}
		}
	}
	// That Tables are full takes no room from Memory.
	x := fullTree()
	x.Memory, x.Seq, x.Snaps = nil, 5000, nil
	for range 15 {
		next, ok := impl.Wrote(x, batchOf(20))
		if !ok {
			t.Fatal(len(x.Memory))
		}
		x = next
	}
	if got, ok := impl.Wrote(x, batchOf(1)); ok || !sameTree(got, x) || len(x.Memory) != 300 {
		t.Fatal(len(got.Memory), ok)
	}
}

func TestReadOfLayers(t *testing.T) {
	x := layers()
	for key, list := range layersRead() {
		for seq := int64(-3); seq < 20; seq++ {
			want := goneAt(key, 0)
			for _, e := range list {
				if e.Seq <= seq {
					want = e
				}
			}
			if got, is := impl.Read(x, key, seq); got != want.Value || is == want.Gone {
				t.Errorf("%q at %d: %q, %v", key, seq, got, is)
			}
		}
		last := list[len(list)-1]
		for _, seq := range []int64{1000000, 1000001, 1<<32 + 1, math.MaxInt64} {
			if got, is := impl.Read(x, key, seq); got != last.Value || is == last.Gone {
				t.Errorf("%q at %d: %q, %v", key, seq, got, is)
			}
		}
		if got, is := impl.Read(x, key, math.MinInt64); got != "" || is {
			t.Errorf("%q at the least: %q, %v", key, got, is)
		}
	}
	for _, key := range []string{"", "h", "aa", "a\x00", "A", "\xff", strings.Repeat("a", 40), strings.Repeat("a", 41)} {
		for _, seq := range anySeqs {
			if got, is := impl.Read(x, key, seq); got != "" || is {
				t.Errorf("%.9q at %d: %q, %v", key, seq, got, is)
			}
		}
	}
}

// Whichever Table has it: the greatest Seq is read, though the Table that is first has the Key too.
func TestReadWhereverItIs(t *testing.T) {
	for which := range 8 {
		x := impl.Tree{Seq: 99}
		for i := range 8 {
			seq := int64(10 + i)
			if i == which {
				seq = 50
			}
			e := written("k", fmt.Sprint(i), seq)
			switch {
			case i == 7 && which == 7:
				x.Memory = []impl.Entry{e}
			case i == 7:
				x.Memory = []impl.Entry{written("j", "x", 99)}
			case i == 6:
				x.Old = []impl.Table{builtOf(e)}
			default:
				x.Young = append(x.Young, builtOf(e))
			}
		}
		if !impl.TreeOk(x) {
			t.Fatal(which)
		}
		for _, seq := range append(rising(0, 100), anySeqs...) {
			want, there := readByRule(x, "k", seq)
			if got, is := impl.Read(x, "k", seq); got != want || is != there || seq >= 50 && got != fmt.Sprint(which) {
				t.Errorf("%d at %d: %q, %v", which, seq, got, is)
			}
		}
	}
}

func TestScanOfLayers(t *testing.T) {
	a1, a5, a11, b2, b8 := written("a", "a1", 1), written("a", "a5", 5), written("a", "a11", 11), written("b", "b2", 2), written("b", "b8", 8)
	c3, d4, d13, e7, f10, g14 := written("c", "c3", 3), written("d", "d4", 4), written("d", "d13", 13), written("e", "e7", 7), written("f", "", 10), written("g", "g14", 14)
	for _, c := range []struct {
		from, to string
		seq      int64
		want     []impl.Entry
	}{
		{"", "\xff", 14, []impl.Entry{b8, d13, e7, f10, g14}},
		{"", "\xff", math.MaxInt64, []impl.Entry{b8, d13, e7, f10, g14}},
		{"", "\xff", 13, []impl.Entry{b8, d13, e7, f10}},
		{"", "\xff", 12, []impl.Entry{b8, d4, e7, f10}},
		{"", "\xff", 11, []impl.Entry{a11, b8, d4, e7, f10}},
		{"", "\xff", 10, []impl.Entry{a5, b8, d4, e7, f10}},
		{"", "\xff", 8, []impl.Entry{a5, b8, c3, d4, e7}},
		{"", "\xff", 7, []impl.Entry{a5, c3, d4, e7}},
		{"", "\xff", 4, []impl.Entry{a1, b2, c3, d4}},
		{"", "\xff", 1, []impl.Entry{a1}},
		{"", "\xff", 0, nil},
		{"", "\xff", -1, nil},
		{"", "\xff", math.MinInt64, nil},
		{"b", "g", 14, []impl.Entry{b8, d13, e7, f10}},
		{"b", "g\x00", 14, []impl.Entry{b8, d13, e7, f10, g14}},
		{"b\x00", "g", 14, []impl.Entry{d13, e7, f10}},
		{"c", "d", 14, nil},
		{"c", "d", 8, []impl.Entry{c3}},
		{"c", "d\x00", 14, []impl.Entry{d13}},
		{"d", "d\x00", 14, []impl.Entry{d13}},
		{"d", "e", 12, []impl.Entry{d4}},
		{"", "b", 10, []impl.Entry{a5}},
		{"", "b", 14, nil},
		{"", "a", 10, nil},
		{"g", "\xff", 14, []impl.Entry{g14}},
		{"h", "\xff", 14, nil},
		{"d", "d", 14, nil},
		{"e", "d", 14, nil},
		{"\xff", "", 14, nil},
		{"z", "a", 14, nil},
		{"", "", 14, nil},
		{"a", "", 14, nil},
	} {
		if got := impl.Scan(layers(), c.from, c.to, c.seq); !slices.Equal(got, c.want) {
			t.Errorf("%q to %q at %d: %v", c.from, c.to, c.seq, got)
		}
	}
}

func TestScanOfMaxEntries(t *testing.T) {
	all := numbered(301)
	for _, n := range []int{299, 300, 301} {
		for _, parts := range [][2]int{{0, 0}, {1, 1}, {100, 200}, {0, 299}, {1, n}, {299, 299}, {0, 1}} {
			x := impl.Tree{Memory: all[:parts[0]], Seq: 301}
			if list := all[parts[0]:parts[1]]; len(list) > 0 {
				x.Young = []impl.Table{builtOf(list...)}
			}
			if list := all[parts[1]:n]; len(list) > 0 && len(list) <= 300 {
				x.Old = []impl.Table{builtOf(list...)}
			} else if len(list) > 300 {
				x.Young, x.Old = []impl.Table{builtOf(list[:9]...)}, []impl.Table{builtOf(list[9:]...)}
			}
			want, narrow := all[:n], all[7:9]
			if n > 300 {
				want, narrow = nil, nil
			}
			if got := impl.Scan(x, "", "\xff", 301); !slices.Equal(got, want) {
				t.Errorf("%d, %v: %d", n, parts, len(got))
			}
			// However few are asked for: all of them count.
			if got := impl.Scan(x, "k0007", "k0009", 301); !slices.Equal(got, narrow) {
				t.Errorf("%d, %v: %v", n, parts, got)
			}
			if value, is := impl.Read(x, "k0298", 301); value != "v" || !is {
				t.Errorf("%d, %v: %q, %v", n, parts, value, is)
			}
		}
	}
	// Those of one Key count each, and so do those that nobody is shown at this Seq.
	x := impl.Tree{Memory: shifted(history("k", 300), 1), Old: []impl.Table{builtOf(written("k", "v", 1))}, Seq: 301}
	if got := impl.Scan(x, "", "\xff", 301); len(got) != 0 {
		t.Error(got)
	}
	x.Memory = x.Memory[1:]
	if got := impl.Scan(x, "", "\xff", 7); !slices.Equal(got, []impl.Entry{written("k", "v", 7)}) {
		t.Error(got)
	}
}

func TestSpillOfForms(t *testing.T) {
	x, ok := impl.Spill(layers())
	want := layers()
	want.Young = append([]impl.Table{builtOf(want.Memory...)}, want.Young...)
	want.Memory = nil
	if !ok || !sameTree(x, want) {
		t.Fatal(x, ok)
	}
	if again, ok := impl.Spill(x); ok || !sameTree(again, x) {
		t.Fatal(again, ok)
	}
	for n := range 7 {
		x := impl.Tree{Memory: stones(), Young: tablesOf(n), Seq: 9, Snaps: []int64{2, 5}}
		got, ok := impl.Spill(x)
		if n == 6 {
			if ok || !sameTree(got, x) {
				t.Error(n, got, ok)
			}
			continue
		}
		if !ok || len(got.Memory) != 0 || len(got.Young) != n+1 || !sameTable(got.Young[0], builtOf(stones()...)) || !slices.EqualFunc(got.Young[1:], x.Young, sameTable) {
			t.Error(n, got, ok)
		}
		if got.Seq != 9 || !slices.Equal(got.Snaps, x.Snaps) || len(got.Old) != 0 || !impl.TreeOk(got) {
			t.Error(n, got)
		}
		x.Memory = nil
		if got, ok := impl.Spill(x); ok || !sameTree(got, x) {
			t.Error(n, got, ok)
		}
	}
}

func TestSinkOfLayers(t *testing.T) {
	a5, a1, b8, b6, b2 := written("a", "a5", 5), written("a", "a1", 1), written("b", "b8", 8), goneAt("b", 6), written("b", "b2", 2)
	c9, c3, d4, e7, f10 := goneAt("c", 9), written("c", "c3", 3), written("d", "d4", 4), written("e", "e7", 7), written("f", "", 10)
	for _, c := range []struct {
		snaps []int64
		want  []impl.Entry
	}{
		{nil, []impl.Entry{a5, b8, d4, e7, f10}},
		{[]int64{0, 14}, []impl.Entry{a5, b8, d4, e7, f10}},
		{[]int64{1}, []impl.Entry{a5, a1, b8, d4, e7, f10}},
		{[]int64{2, 5}, []impl.Entry{a5, a1, b8, b2, c9, c3, d4, e7, f10}},
		{[]int64{6}, []impl.Entry{a5, b8, c9, c3, d4, e7, f10}},
		{[]int64{7}, []impl.Entry{a5, b8, c9, c3, d4, e7, f10}},
		{[]int64{4, 7, 10}, []impl.Entry{a5, a1, b8, b6, b2, c9, c3, d4, e7, f10}},
		{[]int64{9, 10, 13}, []impl.Entry{a5, b8, d4, e7, f10}},
	} {
		x := layers()
		x.Snaps = c.snaps
		want := layers()
		want.Snaps, want.Young, want.Old = c.snaps, nil, []impl.Table{builtOf(c.want...)}
		if got, ok := impl.Sink(x); !ok || !sameTree(got, want) || !impl.TreeOk(got) {
			t.Errorf("%v: %v, %v", c.snaps, got, ok)
		}
	}
}

func TestSinkOfForms(t *testing.T) {
	all := numbered(301)
	k2, gone3, gone1 := builtOf(written("k", "x", 2)), builtOf(goneAt("k", 3)), builtOf(goneAt("k", 1), goneAt("l", 1))
	in := func(list ...impl.Table) []impl.Table { return list }
	memory := []impl.Entry{written("k", "m", 400), written("z", "m", 401)}
	for name, c := range map[string]struct {
		young, old []impl.Table
		snaps      []int64
		old1       []impl.Table
		want       bool
	}{
		"nothing":                            {nil, nil, nil, nil, false},
		"no Young, an Old":                   {nil, in(k2), nil, in(k2), false},
		"no Young, an Old that is Gone":      {nil, in(gone3), nil, in(gone3), false},
		"one, without Old":                   {in(k2), nil, nil, in(k2), true},
		"six, without Old":                   {tablesOf(6), nil, nil, in(builtOf(written("t0", "x", 1), written("t1", "x", 2), written("t2", "x", 3), written("t3", "x", 4), written("t4", "x", 5), written("t5", "x", 6))), true},
		"six and Old":                        {tablesOf(6), in(k2), nil, in(builtOf(written("k", "x", 2), written("t0", "x", 1), written("t1", "x", 2), written("t2", "x", 3), written("t3", "x", 4), written("t4", "x", 5), written("t5", "x", 6))), true},
		"Gone alone: nothing is left":        {in(gone3), nil, nil, nil, true},
		"Gone alone, by Snaps":               {in(gone3, gone1), nil, []int64{1, 2, 3}, nil, true},
		"Gone over Old: nothing is left":     {in(gone3), in(k2), nil, nil, true},
		"Gone over Old, which a Snap sees":   {in(gone3), in(k2), []int64{2}, in(builtOf(goneAt("k", 3), written("k", "x", 2))), true},
		"Gone over Old, a Snap ahead of it":  {in(gone3), in(k2), []int64{1}, nil, true},
		"Gone over Old, a Snap at the Gone":  {in(gone3), in(k2), []int64{3}, nil, true},
		"Gone under Young":                   {in(k2), in(gone1), []int64{1}, in(k2), true},
		"Gone, written, Gone":                {in(gone3, k2), in(gone1), []int64{1, 2}, in(builtOf(goneAt("k", 3), written("k", "x", 2))), true},
		"in Blocks of 3, Old in Blocks of 8": {in(tableOf(inGroups(stones(), 3)...)), nil, rising(0, 10), in(builtOf(bottomByRule(stones(), rising(0, 10))...)), true},
		"300 of two":                         {in(builtOf(all[:1]...)), in(builtOf(all[1:300]...)), nil, in(builtOf(all[:300]...)), true},
		"301 of two":                         {in(builtOf(all[:1]...)), in(builtOf(all[1:]...)), nil, in(builtOf(all[1:]...)), false},
		"301 of Young alone":                 {in(builtOf(all[:150]...), builtOf(all[150:]...)), nil, nil, nil, false},
		"301 of which most go":               {in(builtOf(shifted(history("k", 300), 1)...)), in(builtOf(written("k", "v", 1))), nil, in(builtOf(written("k", "v", 1))), false},
		"300 of which most go":               {in(builtOf(shifted(history("k", 299), 1)...)), in(builtOf(written("k", "v", 1))), nil, in(builtOf(written("k", "v", 300))), true},
		"300 that are Gone":                  {in(builtOf(goneOnes(100)...), builtOf(shifted(numbered(200), 20)...)), nil, nil, in(builtOf(shifted(numbered(200), 20)...)), true},
	} {
		for _, m := range [][]impl.Entry{nil, memory[1:]} {
			x := impl.Tree{Memory: m, Young: c.young, Old: c.old, Seq: 2000, Snaps: c.snaps}
			if !impl.TreeOk(x) {
				t.Fatal(name)
			}
			want := impl.Tree{Memory: m, Old: c.old1, Seq: 2000, Snaps: c.snaps}
			if !c.want {
				want.Young = c.young
			}
			if got, ok := impl.Sink(x); ok != c.want || !sameTree(got, want) {
				t.Errorf("%s: %+v, %v", name, got, ok)
			}
		}
	}
	// What Memory has of a Key does not tell what is the newest below.
	x := impl.Tree{Memory: memory, Young: in(k2), Old: in(builtOf(written("k", "x", 1))), Seq: 500}
	if got, ok := impl.Sink(x); !ok || !slices.Equal(impl.Entries(got.Old[0]), []impl.Entry{written("k", "x", 2)}) || !slices.Equal(got.Memory, memory) {
		t.Error(got, ok)
	}
	if got, ok := impl.Sink(fullTree()); ok || !sameTree(got, fullTree()) {
		t.Error("full:", ok)
	}
}

func TestSnapOfForms(t *testing.T) {
	x, n := impl.Snap(impl.Tree{})
	if n != 0 || !sameTree(x, impl.Tree{Snaps: []int64{0}}) {
		t.Fatal(x, n)
	}
	x, n = impl.Snap(x)
	if n != 0 || !sameTree(x, impl.Tree{Snaps: []int64{0}}) {
		t.Fatal(x, n)
	}
	x, n = impl.Snap(layers())
	want := layers()
	want.Snaps = []int64{4, 7, 10, 14}
	if n != 14 || !sameTree(x, want) {
		t.Fatal(x, n)
	}
	if x, n = impl.Snap(x); n != 14 || !sameTree(x, want) {
		t.Fatal(x, n)
	}
	for _, c := range []struct {
		snaps []int64
		seq   int64
		want  []int64
		n     int64
	}{
		{rising(0, 8), 20, append(rising(0, 8), 20), 20},
		{rising(0, 9), 20, append(rising(0, 9), 20), 20},
		{rising(0, 9), 8, rising(0, 9), 8},
		{rising(0, 9), 9, rising(0, 10), 9},
		{rising(0, 10), 20, rising(0, 10), -1},
		{rising(0, 10), 10, rising(0, 10), -1},
		{rising(0, 10), 9, rising(0, 10), -1},
		{nil, 1000000, []int64{1000000}, 1000000},
	} {
		x := impl.Tree{Seq: c.seq, Snaps: c.snaps}
		if got, n := impl.Snap(x); n != c.n || !sameTree(got, impl.Tree{Seq: c.seq, Snaps: c.want}) {
			t.Errorf("%v at %d: %v, %d", c.snaps, c.seq, got, n)
		}
	}
}

func TestFreeOfForms(t *testing.T) {
	for _, c := range []struct {
		snaps []int64
		snap  int64
		want  []int64
		is    bool
	}{
		{[]int64{4, 7, 10}, 4, []int64{7, 10}, true},
		{[]int64{4, 7, 10}, 7, []int64{4, 10}, true},
		{[]int64{4, 7, 10}, 10, []int64{4, 7}, true},
		{[]int64{4, 7, 10}, 5, []int64{4, 7, 10}, false},
		{[]int64{4, 7, 10}, 0, []int64{4, 7, 10}, false},
		{[]int64{4, 7, 10}, 14, []int64{4, 7, 10}, false},
		{[]int64{4, 7, 10}, -1, []int64{4, 7, 10}, false},
		{[]int64{4, 7, 10}, math.MinInt64, []int64{4, 7, 10}, false},
		{[]int64{4, 7, 10}, math.MaxInt64, []int64{4, 7, 10}, false},
		{[]int64{4, 7, 10}, 1<<32 + 4, []int64{4, 7, 10}, false},
		{[]int64{0}, 0, nil, true},
		{[]int64{14}, 14, nil, true},
		{nil, 0, nil, false},
		{nil, 14, nil, false},
		{rising(0, 10), 9, rising(0, 9), true},
		{rising(0, 10), 0, rising(1, 9), true},
	} {
		x, want := layers(), layers()
		x.Snaps, want.Snaps = c.snaps, c.want
		if got, is := impl.Free(x, c.snap); is != c.is || !sameTree(got, want) {
			t.Errorf("%v without %d: %v, %v", c.snaps, c.snap, got, is)
		}
	}
}

// keysOfTree has each Key of a tree once, and some that are not there.
func keysOfTree(x impl.Tree) []string {
	lists, _ := listsByRule(x)
	return keysOf(slices.Concat(lists...))
}

func TestTreesByRule(t *testing.T) {
	for name, x := range rightTrees() {
		for what, batch := range rightBatches() {
			want, is := wroteByRule(x, batch)
			if got, ok := impl.Wrote(x, batch); ok != is || !sameTree(got, want) {
				t.Errorf("%s: Wrote of %s: %v, %v", name, what, got, ok)
			}
			if len(x.Young) > 3 {
				// Asking each Key of a great tree once is slow enough.
				break
			}
		}
		checkChanges(t, name, x)
		keys := keysOfTree(x)
		lists, _ := listsByRule(x)
		all := slices.Concat(lists...)
		for _, seq := range slices.Concat(anySeqs, x.Snaps, []int64{x.Seq - 1, x.Seq, x.Seq + 1}) {
			for i, key := range keys {
				if len(keys) > 40 && i%37 != 0 {
					continue
				}
				e, there := seenByRule(all, key, seq)
				if got, is := impl.Read(x, key, seq); is != (there && !e.Gone) || got != e.Value {
					t.Errorf("%s: %q at %d: %q, %v", name, key, seq, got, is)
				}
			}
			if len(keys) > 40 {
				continue
			}
			for _, bounds := range [][2]string{{"", "\xff\xff"}, {"a", "c"}, {keys[len(keys)/2], keys[len(keys)-1]}, {keys[len(keys)-1], keys[0]}} {
				if got := impl.Scan(x, bounds[0], bounds[1], seq); !slices.Equal(got, scanByRule(x, bounds[0], bounds[1], seq)) {
					t.Errorf("%s: %q at %d: %v", name, bounds, seq, got)
				}
			}
		}
	}
}

// checkChanges asks what the rule tells of all that is done without a batch; each answer is right again (the zero Tree is, too).
func checkChanges(t *testing.T, name string, x impl.Tree) {
	t.Helper()
	want, is := spillByRule(x)
	if got, ok := impl.Spill(x); ok != is || !sameTree(got, want) || !impl.TreeOk(got) {
		t.Fatalf("%s: Spill: %v, %v", name, got, ok)
	}
	want, is = sinkByRule(x)
	if got, ok := impl.Sink(x); ok != is || !sameTree(got, want) || !impl.TreeOk(got) {
		t.Fatalf("%s: Sink: %v, %v", name, got, ok)
	}
	want, at := snapByRule(x)
	if got, n := impl.Snap(x); n != at || !sameTree(got, want) || !impl.TreeOk(got) {
		t.Fatalf("%s: Snap: %v, %v", name, got, n)
	}
	for _, snap := range slices.Concat(x.Snaps, []int64{0, 1, 5, x.Seq, -1}) {
		want, is = freeByRule(x, snap)
		if got, ok := impl.Free(x, snap); ok != is || !sameTree(got, want) || !impl.TreeOk(got) {
			t.Fatalf("%s: Free of %d: %v, %v", name, snap, got, ok)
		}
	}
}

// told is a tree beside all that was ever written to it: the map of which promise 7 speaks.
type told struct {
	tree    impl.Tree
	history []impl.Entry
}

func (x told) wrote(batch []impl.Write) (told, bool) {
	tree, ok := impl.Wrote(x.tree, batch)
	if !ok {
		return told{tree, x.history}, false
	}
	history := slices.Clip(x.history)
	for i, w := range batch {
		history = append(history, impl.Entry{Key: w.Key, Value: w.Value, Seq: x.tree.Seq + int64(i) + 1, Gone: w.Gone})
	}
	return told{tree, history}, true
}

// check asks at Seq and at each of Snaps what was written last, of each key and of some ranges.
func (x told) check(t *testing.T, keys []string, ranges [][2]string) {
	t.Helper()
	if !impl.TreeOk(x.tree) || x.tree.Seq != int64(len(x.history)) {
		t.Fatalf("not right: %+v", x.tree)
	}
	size := len(x.tree.Memory)
	for _, table := range slices.Concat(x.tree.Young, x.tree.Old) {
		size += len(impl.Entries(table))
	}
	for _, seq := range append(slices.Clone(x.tree.Snaps), x.tree.Seq, math.MaxInt64) {
		for _, key := range keys {
			e, there := seenByRule(x.history, key, seq)
			if got, is := impl.Read(x.tree, key, seq); got != e.Value || is != (there && !e.Gone) {
				t.Fatalf("%q at %d: %q, %v: %+v", key, seq, got, is, x.tree)
			}
		}
		shown := shownByRule(x.history, seq)
		for _, bounds := range ranges {
			want := slices.DeleteFunc(slices.Clone(shown), func(e impl.Entry) bool { return e.Key < bounds[0] || e.Key >= bounds[1] })
			if size > 300 {
				want = nil
			}
			if got := impl.Scan(x.tree, bounds[0], bounds[1], seq); !slices.Equal(got, want) {
				t.Fatalf("%q at %d: %v, not %v", bounds, seq, got, want)
			}
		}
	}
}

// Promise 7, for all scripts of a few steps over two Keys.
func TestAllShortScripts(t *testing.T) {
	keys, ranges := []string{"a", "b", "c"}, [][2]string{{"", "z"}, {"a", "b"}, {"b", "c"}}
	batches := [][]impl.Write{{{Key: "a", Value: "x"}}, {{Key: "a", Gone: true}}, {{Key: "b", Value: "y"}, {Key: "a", Value: "z"}}}
	count := 0
	var play func(x told, steps int)
	play = func(x told, steps int) {
		x.check(t, keys, ranges)
		count++
		if steps == 0 {
			return
		}
		for _, batch := range batches {
			next, ok := x.wrote(batch)
			if !ok {
				t.Fatalf("%v: %+v", batch, x.tree)
			}
			play(next, steps-1)
		}
		if tree, ok := impl.Spill(x.tree); ok {
			play(told{tree, x.history}, steps-1)
		}
		if tree, ok := impl.Sink(x.tree); ok {
			play(told{tree, x.history}, steps-1)
		}
		if tree, n := impl.Snap(x.tree); n == x.tree.Seq && len(tree.Snaps) > len(x.tree.Snaps) {
			play(told{tree, x.history}, steps-1)
		}
		for _, snap := range x.tree.Snaps {
			if tree, ok := impl.Free(x.tree, snap); ok {
				play(told{tree, x.history}, steps-1)
			}
		}
	}
	play(told{}, 6)
	if count < 10000 {
		t.Fatal(count)
	}
}

func anyBatch(source *rand.Rand, keys []string, n int) []impl.Write {
	batch := []impl.Write{}
	for range n {
		e := anyEntry(source, keys, 9)
		batch = append(batch, impl.Write{Key: e.Key, Value: e.Value, Gone: e.Gone})
	}
	return batch
}

// anyStep does something to a tree, and tells what came of it.
func anyStep(source *rand.Rand, x told, keys []string, steps []string) (told, string) {
	tree, ok, name := impl.Tree{}, false, steps[source.Intn(len(steps))]
	switch name {
	case "spill":
		tree, ok = impl.Spill(x.tree)
	case "sink":
		tree, ok = impl.Sink(x.tree)
	case "snap":
		n := int64(0)
		tree, n = impl.Snap(x.tree)
		ok = n == x.tree.Seq
	case "free":
		tree, ok = impl.Free(x.tree, append([]int64{3}, x.tree.Snaps...)[source.Intn(len(x.tree.Snaps)+1)])
	default:
		next, ok := x.wrote(anyBatch(source, keys, source.Intn(21)))
		return next, fmt.Sprint("write ", ok)
	}
	return told{tree, x.history}, fmt.Sprint(name, " ", ok)
}

// manySteps are those to choose from: with fewer of one kind, room for another runs out.
func manySteps() [][]string {
	return [][]string{
		{"spill", "sink", "snap", "free", "write", "write", "write", "write"},
		{"spill", "sink", "snap", "free", "write", "write", "write", "write", "write", "write", "write", "write", "write", "write", "write", "write", "write", "write", "write", "write"},
		{"spill", "spill", "spill", "sink", "snap", "free", "write", "write", "write", "write", "write"},
		{"spill", "sink", "snap", "snap", "snap", "free", "write", "write", "write"},
	}
}

// Promise 7: whatever is written, spilled and sunk in between, with few Keys and with so many that room runs out.
func TestATreeIsAMap(t *testing.T) {
	source := rand.New(rand.NewSource(14))
	done := map[string]int{}
	for round := range 48 {
		keys := []string{}
		for i := range []int{3, 12, 90, 400}[round%4] {
			keys = append(keys, fmt.Sprintf("k%03d", i))
		}
		asked := slices.Concat(keys[:min(len(keys), 8)], keys[len(keys)-1:], []string{"", "k", "nobody"})
		x := told{}
		for at := range 120 {
			next, step := anyStep(source, x, keys, manySteps()[round/4%4])
			if strings.HasSuffix(step, "false") && !sameTree(next.tree, x.tree) {
				t.Fatalf("%s changed %+v: %+v", step, x.tree, next.tree)
			}
			x = next
			done[step]++
			if at%20 == 19 {
				x.check(t, asked, [][2]string{{"", "\xff"}, {"k001", "k011"}, {"k005", "k001"}})
			}
		}
	}
	for _, name := range []string{"write", "spill", "sink", "snap", "free"} {
		for _, is := range []string{" true", " false"} {
			if done[name+is] < 20 {
				t.Error(name+is, done[name+is])
			}
		}
	}
}

// The same step by step, for small trees; at the Seqs between, what the layers have is told.
func TestATreeIsAMapAtEachStep(t *testing.T) {
	source := rand.New(rand.NewSource(15))
	keys := []string{"a", "aa", "b", "b\x00", "\xff"}
	for round := range 40 {
		x := told{}
		for range 30 {
			x, _ = anyStep(source, x, keys, manySteps()[round%4])
			x.check(t, keys, [][2]string{{"", "\xff\xff"}, {"aa", "b\x00"}})
			lists, _ := listsByRule(x.tree)
			all := slices.Concat(lists...)
			for seq := int64(-1); seq <= x.tree.Seq+1; seq += 1 + source.Int63n(9) {
				key := keys[source.Intn(len(keys))]
				e, there := seenByRule(all, key, seq)
				if got, is := impl.Read(x.tree, key, seq); got != e.Value || is != (there && !e.Gone) {
					t.Fatalf("%q at %d: %q, %v: %+v", key, seq, got, is, x.tree)
				}
			}
		}
	}
}

// anyTree is right, though Wrote, Spill and Sink need not have made it: its Tables have whichever Seqs.
func anyTree(source *rand.Rand) impl.Tree {
	keys := []string{"a", "aa", "b", "b\x00", "Z", "\xff", "m", "n", "o"}
	lists := make([][]impl.Entry, 1+source.Intn(7))
	all := []impl.Entry{}
	for range source.Intn(60) {
		e := anyEntry(source, keys, 30)
		if !hasAlike(all, e) {
			all = append(all, e)
			at := source.Intn(len(lists))
			lists[at] = append(lists[at], e)
		}
	}
	x := impl.Tree{Seq: 30 + source.Int63n(3)}
	for _, e := range all {
		if newer := shifted([]impl.Entry{e}, 30)[0]; source.Intn(5) == 0 {
			x.Memory = append(x.Memory, newer)
			x.Seq = max(x.Seq, newer.Seq)
		}
	}
	x.Memory = inOrder(x.Memory)
	for i, list := range lists {
		if len(list) == 0 {
			continue
		}
		table := tableOf(inGroups(inOrder(list), 2+source.Intn(7))...)
		if i == 6 {
			x.Old = []impl.Table{table}
		} else {
			x.Young = append(x.Young, table)
		}
	}
	for range source.Intn(6) {
		x.Snaps = append(x.Snaps, source.Int63n(x.Seq+1))
	}
	slices.Sort(x.Snaps)
	x.Snaps = slices.Compact(x.Snaps)
	return x
}

// Promise 7, for right trees of whatever form: Spill and Sink change no answer at Seq or a Snap.
func TestSpillAndSinkChangeNoAnswer(t *testing.T) {
	source := rand.New(rand.NewSource(16))
	spilt, sunk, fewer := 0, 0, 0
	for range 400 {
		x := anyTree(source)
		if !impl.TreeOk(x) || !treeByRule(x) {
			t.Fatalf("%+v", x)
		}
		checkChanges(t, fmt.Sprintf("%+v", x), x)
		keys := keysOfTree(x)
		for name, change := range map[string]func(impl.Tree) (impl.Tree, bool){"Spill": impl.Spill, "Sink": impl.Sink} {
			y, ok := change(x)
			if ok && name == "Spill" {
				spilt++
			} else if ok {
				sunk++
			}
			if len(keysOfTree(y)) < len(keys) {
				fewer++
			}
			for _, seq := range append(slices.Clone(x.Snaps), x.Seq) {
				for _, key := range keys {
					want, there := impl.Read(x, key, seq)
					if got, is := impl.Read(y, key, seq); got != want || is != there {
						t.Fatalf("%s: %q at %d: %q, %v: %+v", name, key, seq, got, is, x)
					}
				}
				for _, bounds := range [][2]string{{"", "\xff\xff"}, {"aa", "n"}} {
					want := impl.Scan(x, bounds[0], bounds[1], seq)
					if got := impl.Scan(y, bounds[0], bounds[1], seq); !slices.Equal(got, want) {
						t.Fatalf("%s: %q at %d: %v: %+v", name, bounds, seq, got, x)
					}
				}
			}
		}
	}
	if spilt < 100 || sunk < 100 || fewer < 50 {
		t.Fatal(spilt, sunk, fewer)
	}
}

// otherTree changes one thing of a tree, which may be right all the same.
func otherTree(source *rand.Rand, x impl.Tree) impl.Tree {
	x = treeClone(x)
	e := anyEntry(source, []string{"a", "aa", "b", "m"}, 62)
	switch source.Intn(9) {
	case 0:
		x.Seq -= source.Int63n(40)
	case 1:
		x.Memory = inOrder(append(x.Memory, e))
	case 2:
		x.Memory = append(x.Memory, e)
	case 3:
		x.Young = append(x.Young, builtOf(e))
	case 4:
		x.Old = append(x.Old, builtOf(e))
	case 5:
		x.Snaps = append(x.Snaps, source.Int63n(66)-1)
	case 6:
		x.Snaps = append([]int64{source.Int63n(6) - 1}, x.Snaps...)
	case 7:
		if len(x.Young) > 0 {
			at := source.Intn(len(x.Young))
			x.Young[at] = anyChange(source, x.Young[at])
		}
	case 8:
		if len(x.Young) > 0 {
			x.Old = append(x.Old, x.Young[source.Intn(len(x.Young))])
		}
	}
	return x
}

func TestTreesWithAnythingChanged(t *testing.T) {
	source := rand.New(rand.NewSource(17))
	right, wrong := 0, 0
	for range 2000 {
		x := otherTree(source, anyTree(source))
		is := treeByRule(x)
		if ok := impl.TreeOk(x); ok != is {
			t.Fatalf("%+v: %v", x, ok)
		}
		batch := anyBatch(source, []string{"a", "b", "q"}, source.Intn(4))
		want, done := wroteByRule(x, batch)
		if got, ok := impl.Wrote(x, batch); ok != done || !sameTree(got, want) {
			t.Fatalf("%+v: Wrote of %v: %+v, %v", x, batch, got, ok)
		}
		checkChanges(t, fmt.Sprintf("%+v", x), x)
		for _, key := range []string{"a", "aa", "m", "q"} {
			seq := source.Int63n(66) - 1
			value, there := readByRule(x, key, seq)
			if got, is := impl.Read(x, key, seq); got != value || is != there {
				t.Fatalf("%+v: %q at %d: %q, %v", x, key, seq, got, is)
			}
		}
		if is {
			right++
		} else {
			wrong++
		}
	}
	if right < 300 || wrong < 300 {
		t.Fatal(right, wrong)
	}
}

// span is where a list lies, its spare room too.
type span struct{ from, to uintptr }

// spansOf has one for each list in a value, however deep.
func spansOf(v reflect.Value) []span {
	spans := []span{}
	switch v.Kind() {
	case reflect.Slice:
		if size := uintptr(v.Cap()) * v.Type().Elem().Size(); size > 0 {
			spans = append(spans, span{v.Pointer(), v.Pointer() + size})
		}
		for i := range v.Len() {
			spans = append(spans, spansOf(v.Index(i))...)
		}
	case reflect.Struct:
		for i := range v.NumField() {
			spans = append(spans, spansOf(v.Field(i))...)
		}
	}
	return spans
}

// sharesMemory tells whether two lists of an answer lie over one another, or one of them over one of an argument.
func sharesMemory(answer any, arguments ...any) bool {
	own, others := spansOf(reflect.ValueOf(answer)), []span{}
	for _, argument := range arguments {
		others = append(others, spansOf(reflect.ValueOf(argument))...)
	}
	for i, a := range own {
		for _, b := range slices.Concat(own[i+1:], others) {
			if a.from < b.to && b.from < a.to {
				return true
			}
		}
	}
	return false
}

// withItsRoom has a copy in which each list is as long as there is room, however deep.
func withItsRoom(v reflect.Value) reflect.Value {
	out := reflect.New(v.Type()).Elem()
	switch v.Kind() {
	case reflect.Slice:
		v = v.Slice(0, v.Cap())
		out.Set(reflect.MakeSlice(v.Type(), v.Len(), v.Len()))
		for i := range v.Len() {
			out.Index(i).Set(withItsRoom(v.Index(i)))
		}
	case reflect.Struct:
		for i := range v.NumField() {
			out.Field(i).Set(withItsRoom(v.Field(i)))
		}
	default:
		out.Set(v)
	}
	return out
}

// roomy has some values behind a list, as room.
func roomy[T any](list []T, behind ...T) []T {
	return slices.Concat(list, behind)[:len(list)]
}

func roomyTables(list []impl.Table) []impl.Table {
	tables := []impl.Table{}
	for _, x := range append(slices.Clone(list), tablesOf(3)...) {
		wide, _, _ := withRoom(x)
		tables = append(tables, wide)
	}
	return tables[:len(list)]
}

// roomyTree has the same tree, with so much room behind each list of it as may tempt.
func roomyTree(x impl.Tree) impl.Tree {
	return impl.Tree{Memory: roomy(x.Memory, numbered(30)...), Young: roomyTables(x.Young), Old: roomyTables(x.Old), Seq: x.Seq, Snaps: roomy(x.Snaps, 7, 3, 5, 9)}
}

// memoryTrees has right and wrong trees, but not all of those with a wrong Table.
func memoryTrees() map[string]impl.Tree {
	trees := rightTrees()
	for name, x := range wrongTrees() {
		if len(x.Young) != 1 && len(x.Old) != 1 || strings.HasPrefix(name, "twice") || strings.Contains(name, "Memory") {
			trees["wrong: "+name] = x
		}
	}
	return trees
}

// treeAnswers are all functions of the chapter, each with a tree and a batch as its arguments.
func treeAnswers() map[string]func(impl.Tree, []impl.Write) any {
	type snapped struct {
		Tree impl.Tree
		N    int64
	}
	type changed struct {
		Tree impl.Tree
		Is   bool
	}
	return map[string]func(impl.Tree, []impl.Write) any{
		"TreeOk": func(x impl.Tree, _ []impl.Write) any { return impl.TreeOk(x) },
		"Wrote":  func(x impl.Tree, b []impl.Write) any { y, is := impl.Wrote(x, b); return changed{y, is} },
		"Read":   func(x impl.Tree, _ []impl.Write) any { y, is := impl.Read(x, "b", 5); return fmt.Sprint(y, is) },
		"Scan":   func(x impl.Tree, _ []impl.Write) any { return impl.Scan(x, "a", "z", x.Seq) },
		"Spill":  func(x impl.Tree, _ []impl.Write) any { y, is := impl.Spill(x); return changed{y, is} },
		"Sink":   func(x impl.Tree, _ []impl.Write) any { y, is := impl.Sink(x); return changed{y, is} },
		"Snap":   func(x impl.Tree, _ []impl.Write) any { y, n := impl.Snap(x); return snapped{y, n} },
		"Free, there": func(x impl.Tree, _ []impl.Write) any {
			y, is := impl.Free(x, append(slices.Clone(x.Snaps), 0)[0])
			return changed{y, is}
		},
		"Free, not there": func(x impl.Tree, _ []impl.Write) any { y, is := impl.Free(x, -7); return changed{y, is} },
	}
}

// asText tells an answer as a text: an empty list and nil are the same there.
func asText(answer any) string {
	return fmt.Sprintf("%+v", answer)
}

// memoryArguments are those of the functions of a chapter: with such room behind their lists as may tempt, and without.
type memoryArguments[A any] interface {
	roomy() A
	tight() A
}

// wantLeft asks that arguments stay, their lists where they were, and that no answer hangs on the room behind these.
func wantLeft[A memoryArguments[A]](t *testing.T, name string, x A, answer func(A) any) {
	t.Helper()
	wide := x.roomy()
	lie, before := spansOf(reflect.ValueOf(wide)), withItsRoom(reflect.ValueOf(wide))
	got := answer(wide)
	if asText(got) != asText(answer(x.tight())) {
		t.Fatalf("%s hangs on the room", name)
	}
	if !reflect.DeepEqual(withItsRoom(reflect.ValueOf(wide)).Interface(), before.Interface()) {
		t.Fatalf("%s changed an argument", name)
	}
	if !slices.Equal(lie, spansOf(reflect.ValueOf(wide))) {
		t.Fatalf("%s moved a list of an argument", name)
	}
}

// wantNewMemory asks that an answer shares memory with no argument, with no answer ahead of it, and that no two of its lists share any.
func wantNewMemory[A memoryArguments[A]](t *testing.T, name string, x A, answer func(A) any) {
	t.Helper()
	for what, given := range map[string]A{"with room": x.roomy(), "without": x.tight()} {
		first := answer(given)
		second := answer(given)
		if sharesMemory(first, given, second) || sharesMemory(second, given) {
			t.Fatalf("%s, %s, shares memory", name, what)
		}
		if asText(first) != asText(second) {
			t.Fatalf("%s, %s, answers anew in another way", name, what)
		}
	}
}

func TestTreesLeaveTheirArguments(t *testing.T) {
	batches := [][]impl.Write{nil, {{Key: "b", Value: "new"}, {Key: "a", Gone: true}}, {{Key: "b"}, {}}, batchOf(21)}
	for name, x := range memoryTrees() {
		for what, answer := range treeAnswers() {
			for _, batch := range batches {
				wide, more := roomyTree(x), roomy(batch, batchOf(5)...)
				lie := slices.Concat(spansOf(reflect.ValueOf(wide)), spansOf(reflect.ValueOf(more)))
				tree, writes := withItsRoom(reflect.ValueOf(wide)), withItsRoom(reflect.ValueOf(more))
				got := answer(wide, more)
				if asText(got) != asText(answer(treeClone(x), slices.Clip(slices.Clone(batch)))) {
					t.Fatalf("%s: %s hangs on the room", name, what)
				}
				if !reflect.DeepEqual(withItsRoom(reflect.ValueOf(wide)).Interface(), tree.Interface()) || !reflect.DeepEqual(withItsRoom(reflect.ValueOf(more)).Interface(), writes.Interface()) {
					t.Fatalf("%s: %s changed an argument", name, what)
				}
				if !slices.Equal(lie, slices.Concat(spansOf(reflect.ValueOf(wide)), spansOf(reflect.ValueOf(more)))) {
					t.Fatalf("%s: %s moved a list of an argument", name, what)
				}
				if what != "Wrote" {
					break
				}
			}
		}
	}
}

func TestTreesGiveNewMemory(t *testing.T) {
	batches := [][]impl.Write{nil, {{Key: "b", Value: "new"}, {Key: "a", Gone: true}}, {{}}}
	for name, x := range memoryTrees() {
		for what, answer := range treeAnswers() {
			for _, batch := range batches {
				wide, more := roomyTree(x), roomy(batch, batchOf(5)...)
				first := answer(wide, more)
				second := answer(wide, more)
				if sharesMemory(first, wide, more, second) || sharesMemory(second, wide, more) {
					t.Fatalf("%s: %s shares memory", name, what)
				}
				if what != "Wrote" {
					break
				}
			}
		}
	}
}

// What tells of shared memory would tell of it.
func TestSharedMemoryIsTold(t *testing.T) {
	x, y := layers(), layers()
	if sharesMemory(x, y) {
		t.Fatal("two trees of their own")
	}
	for name, spoilt := range map[string]impl.Tree{
		"Memory":         {Memory: y.Memory},
		"Memory's room":  {Memory: y.Memory[:0]},
		"Young":          {Young: y.Young[1:]},
		"Bits":           {Old: []impl.Table{{Bits: y.Young[1].Bits}}},
		"Blocks":         {Old: []impl.Table{{Blocks: y.Old[0].Blocks}}},
		"Snaps":          {Snaps: y.Snaps[2:]},
		"two of its own": {Young: []impl.Table{{Bits: x.Young[0].Bits}}, Snaps: x.Young[0].Bits[1:]},
	} {
		if !sharesMemory(spoilt, y) {
			t.Error(name)
		}
	}
}
