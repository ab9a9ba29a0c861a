package tests

import (
	"fmt"
	"math/rand"
	"runtime"
	"slices"
	"sync"
	"testing"

	"loop.example/g00217/impl"
)

// All money there is, as NewBank has it.
const allMoney = 8000

// The chapter by its words: each Block is looked for anew, and each two are held against each other.

func chainByRule(r impl.Replica) []impl.Block {
	if !replicaByRule(r) {
		return nil
	}
	list, names := []impl.Block{}, namesOf(r.Blocks)
	for _, name := range r.Done {
		list = append(list, r.Blocks[slices.Index(names, name)])
	}
	return list
}

func movesOf(blocks []impl.Block) []string {
	moves := []string{}
	for _, b := range blocks {
		moves = append(moves, b.Moves...)
	}
	return moves
}

// bankAtFirst is written out again.
func bankAtFirst() impl.Bank {
	return bankWith(eight(allMoney/accountsOfBank), eight(0))
}

func ranByRule(r impl.Replica) (impl.Bank, []int64) {
	if !replicaByRule(r) {
		return impl.Bank{}, nil
	}
	return movedAllByRule(bankAtFirst(), movesOf(chainByRule(r)))
}

func begins(a []int64, b []int64) bool {
	return len(a) <= len(b) && slices.Equal(a, b[:len(a)])
}

func agreedByRule(c impl.Cluster) bool {
	for _, a := range c.Replicas {
		for _, b := range c.Replicas {
			if !begins(a.Done, b.Done) && !begins(b.Done, a.Done) {
				return false
			}
		}
	}
	return clusterByRule(c)
}

func apartByRule(c impl.Cluster) bool {
	blocks, names := []impl.Block{}, []int64{}
	for _, r := range c.Replicas {
		blocks, names = append(blocks, r.Blocks...), append(names, namesOf(r.Blocks)...)
	}
	for i, a := range blocks {
		for j, b := range blocks[:i] {
			if names[i] == names[j] && !sameBlock(a, b) {
				return false
			}
		}
	}
	return clusterByRule(c)
}

// checkLedger holds what is agreed on against the words: a chain of rising Views, of Blocks that Done names, of Moves that keep the money.
func checkLedger(t *testing.T, name string, r impl.Replica) ([]impl.Block, impl.Bank) {
	t.Helper()
	chain, want := impl.Chain(r), chainByRule(r)
	if !slices.EqualFunc(chain, want, sameBlock) {
		t.Fatalf("%s: %s: %s, not %s", name, shortly(r), shortly(chain), shortly(want))
	}
	b, codes := impl.Ran(r)
	wantBank, wantCodes := ranByRule(r)
	if !sameBank(b, wantBank) || !slices.Equal(codes, wantCodes) {
		t.Fatalf("%s: %s: %v and %v, not %v and %v", name, shortly(r), b, codes, wantBank, wantCodes)
	}
	if !impl.ReplicaOk(r) {
		return chain, b
	}
	parent, view := int64(0), int64(0)
	for i, b := range chain {
		if impl.Name(b) != r.Done[i] || b.Parent != parent || b.View <= view {
			t.Fatalf("%s: Block %d of %s", name, i, shortly(chain))
		}
		parent, view = r.Done[i], b.View
	}
	if impl.Total(b) != allMoney || len(chain) != len(r.Done) || len(codes) != len(movesOf(chain)) {
		t.Fatalf("%s: %v, %v, %d Blocks", name, b, codes, len(chain))
	}
	return chain, b
}

// checkLedgers holds a whole cluster against the words.
func checkLedgers(t *testing.T, name string, c impl.Cluster) (bool, bool) {
	t.Helper()
	agreed, apart := impl.Agreed(c), impl.Apart(c)
	if wantAgreed, wantApart := agreedByRule(c), apartByRule(c); agreed != wantAgreed || apart != wantApart {
		t.Fatalf("%s: %v and %v, not %v and %v: %s", name, agreed, apart, wantAgreed, wantApart, shortly(c))
	}
	return agreed, apart
}

func wantLedgers(t *testing.T, name string, c impl.Cluster, agreed bool, apart bool) {
	t.Helper()
	if !impl.ClusterOk(c) {
		t.Errorf("%s: not right: %s", name, shortly(c))
	}
	if gotAgreed, gotApart := checkLedgers(t, name, c); gotAgreed != agreed || gotApart != apart {
		t.Errorf("%s: agreed %v, apart %v: %s", name, gotAgreed, gotApart, shortly(c))
	}
}

// doneOf knows these, and the chain of these is Done.
func doneOf(n int64, blocks []impl.Block, done ...impl.Block) impl.Replica {
	r := withBlocks(0, n, blocks...)
	r.Done = namesOf(done)
	return r
}

func wantChain(t *testing.T, name string, r impl.Replica, want ...impl.Block) {
	t.Helper()
	if !impl.ReplicaOk(r) {
		t.Errorf("%s: not right: %s", name, shortly(r))
	}
	if got, _ := checkLedger(t, name, r); !slices.EqualFunc(got, want, sameBlock) {
		t.Errorf("%s: %s, not %s", name, shortly(got), shortly(want))
	}
}

func TestChainOfForms(t *testing.T) {
	for _, n := range someServers {
		for id := range n {
			wantChain(t, "new", newOf(id, n))
		}
		some := someReplica(n)
		b := some.Blocks
		wantChain(t, "some", some, b[0], b[1])
		for what, done := range map[string][]impl.Block{
			"none":             {},
			"one":              b[:1],
			"two":              b[:2],
			"three":            b[:3],
			"all of the chain": b[:5],
			"what parts":       {b[0], b[1], b[5]},
		} {
			wantChain(t, what, replicaAs(some, func(r *impl.Replica) { r.Done = namesOf(done) }), done...)
			wantChain(t, what+", and nothing but Blocks", doneOf(n, b, done...), done...)
		}
		wantChain(t, "Blocks, and nothing Done", withBlocks(0, n, b...))
		wantChain(t, "60 Blocks side by side, the last one Done", doneOf(n, manyBlocks(n, 1, 60), manyBlocks(n, 1, 60)[59]), manyBlocks(n, 1, 60)[59])
	}
}

// As many as there may be, and each number of them.
func TestChainOfEachSize(t *testing.T) {
	for _, n := range someServers {
		blocks := chainOf(n, rising(1, mostBlocks)...)
		for size := range mostBlocks + 1 {
			r := doneOf(n, blocks, blocks[:size]...)
			wantChain(t, fmt.Sprint("so many Done: ", size), r, blocks[:size]...)
			if size%9 == 0 {
				wantChain(t, fmt.Sprint("so many Blocks: ", size), doneOf(n, blocks[:size], blocks[:size]...), blocks[:size]...)
			}
		}
		far := chainOf(n, 1, 500, mostView-1, mostView)
		wantChain(t, "up to MaxView", doneOf(n, far, far...), far...)
	}
}

// What is beside the chain is not in it, wherever it stands among Blocks.
func TestChainOfBlocksBeside(t *testing.T) {
	for _, n := range someServers {
		line, beside := chainOf(n, 2, 3, 5, 6), manyBlocks(n, 1, 3)
		on := chainOn(proofFor(beside[1], n), n, 4, 7)
		blocks := []impl.Block{beside[0], line[0], beside[1], on[0], line[1], line[2], beside[2], on[1], line[3], blockOn(proofFor(line[1], n), 9, n, "parts")}
		for size := range 5 {
			wantChain(t, fmt.Sprint("a line of ", size), doneOf(n, blocks, line[:size]...), line[:size]...)
		}
		wantChain(t, "another line", doneOf(n, blocks, beside[1], on[0], on[1]), beside[1], on[0], on[1])
		wantChain(t, "one beside", doneOf(n, blocks, beside[2]), beside[2])
		wantChain(t, "what parts", doneOf(n, blocks, line[0], line[1], blocks[9]), line[0], line[1], blocks[9])
	}
}

// Each field of a Block is there, and each list of it.
func TestChainOfWholeBlocks(t *testing.T) {
	for _, n := range someServers {
		all := serversTo(n)
		first := blockOn(impl.Proof{}, 3, n, repeated(sized(60), 10)...)
		second := blockOn(proofForBy(first, all...), 4, n, "", "0 7 10 0", "a\nb", "")
		third := blockOn(proofForBy(second, all[n-quorumByRule(n):]...), 8, n)
		blocks := []impl.Block{first, second, third}
		got := impl.Chain(doneOf(n, blocks, blocks...))
		if len(got) != 3 || !sameBlock(got[0], first) || !sameBlock(got[1], second) || !sameBlock(got[2], third) {
			t.Errorf("of %d: %s", n, shortly(got))
		}
	}
}

func wantRan(t *testing.T, name string, r impl.Replica, want impl.Bank, wantCodes ...int64) {
	t.Helper()
	if !impl.ReplicaOk(r) {
		t.Errorf("%s: not right: %s", name, shortly(r))
	}
	checkLedger(t, name, r)
	if b, codes := impl.Ran(r); !sameBank(b, want) || !slices.Equal(codes, wantCodes) {
		t.Errorf("%s: %v and %v, not %v and %v", name, b, codes, want, wantCodes)
	}
}

// lineWith has a Block for each of these lists of Moves, and all of them are Done.
func lineWith(n int64, moves ...[]string) impl.Replica {
	p, blocks := impl.Proof{}, []impl.Block{}
	for i, list := range moves {
		b := blockOn(p, int64(i)+1, n, list...)
		blocks, p = append(blocks, b), proofFor(b, n)
	}
	return doneOf(n, blocks, blocks...)
}

// ranForms have Moves, Block by Block, what becomes of the Bank, and the codes.
func ranForms() map[string]struct {
	moves [][]string
	bank  impl.Bank
	codes []int64
} {
	type form = struct {
		moves [][]string
		bank  impl.Bank
		codes []int64
	}
	bank := func(zero, one, two, seven int64, counts ...int64) impl.Bank {
		return bankWith([]int64{zero, one, two, 1000, 1000, 1000, 1000, seven}, append(counts, eight(0)[len(counts):]...))
	}
	return map[string]form{
		"no Blocks":                    {nil, bank(1000, 1000, 1000, 1000), nil},
		"a Block of no Moves":          {[][]string{{}}, bank(1000, 1000, 1000, 1000), nil},
		"three Blocks of no Moves":     {[][]string{{}, {}, {}}, bank(1000, 1000, 1000, 1000), nil},
		"one that moves money":         {[][]string{{"0 7 10 0"}}, bank(990, 1000, 1000, 1010, 1), []int64{0}},
		"all of the money":             {[][]string{{"0 7 1000 0"}}, bank(0, 1000, 1000, 2000, 1), []int64{0}},
		"more than all":                {[][]string{{"0 7 1001 0"}}, bank(1000, 1000, 1000, 1000), []int64{3}},
		"of another count":             {[][]string{{"0 7 10 1"}}, bank(1000, 1000, 1000, 1000), []int64{2}},
		"to itself":                    {[][]string{{"1 1 5 0"}}, bank(1000, 1000, 1000, 1000, 0, 1), []int64{0}},
		"no Move":                      {[][]string{{"move"}}, bank(1000, 1000, 1000, 1000), []int64{1}},
		"an empty text":                {[][]string{{""}}, bank(1000, 1000, 1000, 1000), []int64{1}},
		"a sum of 0":                   {[][]string{{"0 7 0 0"}}, bank(1000, 1000, 1000, 1000), []int64{1}},
		"from nobody":                  {[][]string{{"8 7 1 0"}}, bank(1000, 1000, 1000, 1000), []int64{1}},
		"one twice in a Block":         {[][]string{{"0 7 10 0", "0 7 10 0"}}, bank(990, 1000, 1000, 1010, 1), []int64{0, 2}},
		"one twice in two Blocks":      {[][]string{{"0 7 10 0"}, {"0 7 10 0"}}, bank(990, 1000, 1000, 1010, 1), []int64{0, 2}},
		"one thrice, and one between":  {[][]string{{"0 7 10 0"}, {"0 7 10 0", "1 7 10 0"}, {"0 7 10 0"}}, bank(990, 990, 1000, 1020, 1, 1), []int64{0, 2, 0, 2}},
		"one behind the other":         {[][]string{{"0 7 10 0"}, {"0 7 10 1"}, {"0 7 10 2"}}, bank(970, 1000, 1000, 1030, 3), []int64{0, 0, 0}},
		"the count goes the other way": {[][]string{{"0 7 10 2"}, {"0 7 10 1"}, {"0 7 10 0"}}, bank(990, 1000, 1000, 1010, 1), []int64{2, 2, 0}},
		"what came goes on":            {[][]string{{"0 1 1000 0"}, {"1 2 2000 0"}, {"2 7 3000 0"}}, bank(0, 0, 0, 4000, 1, 1, 1), []int64{0, 0, 0}},
		"what comes too late":          {[][]string{{"2 7 3000 0"}, {"1 2 2000 0"}, {"0 1 1000 0"}}, bank(0, 2000, 1000, 1000, 1), []int64{3, 3, 0}},
		"all there is, in one Block":   {[][]string{{"0 7 10 0", "x", "0 7 10 0", "0 7 991 1", "0 1 990 1", "1 2 1990 0"}}, bank(0, 0, 2990, 1010, 2, 1), []int64{0, 1, 2, 3, 0, 0}},
		"all there is, Block by Block": {[][]string{{"0 7 10 0"}, {"x"}, {}, {"0 7 10 0"}, {"0 7 991 1"}, {"0 1 990 1"}, {}, {"1 2 1990 0"}}, bank(0, 0, 2990, 1010, 2, 1), []int64{0, 1, 2, 3, 0, 0}},
		"what goes round":              {[][]string{{"0 1 500 0", "1 2 1500 0"}, {"2 0 2500 0", "0 7 1 1"}}, bank(2999, 0, 0, 1001, 2, 1, 1), []int64{0, 0, 0, 0}},
		"a Block's text, and a Move":   {[][]string{{"0 7 10 0 ", " 0 7 10 0", "0  7 10 0", "0 7 10 0"}}, bank(990, 1000, 1000, 1010, 1), []int64{1, 1, 1, 0}},
		"ten in a Block, and one":      {[][]string{repeated("3 3 1 0", 10), {"4 4 1 0"}}, bank(1000, 1000, 1000, 1000, 0, 0, 0, 1, 1), []int64{0, 2, 2, 2, 2, 2, 2, 2, 2, 2, 0}},
	}
}

func TestRanOfForms(t *testing.T) {
	for _, n := range someServers {
		for what, form := range ranForms() {
			wantRan(t, what, lineWith(n, form.moves...), form.bank, form.codes...)
		}
		for id := range n {
			wantRan(t, "new", newOf(id, n), bankAtFirst())
		}
		wantRan(t, "some", someReplica(n), bankAtFirst(), 1, 1)
	}
}

// What is not Done does not run, be it behind the chain or beside it.
func TestRanOfWhatIsDoneAlone(t *testing.T) {
	for _, n := range someServers {
		whole := lineWith(n, []string{"0 7 10 0"}, []string{"0 7 10 1", "x"}, []string{"0 7 10 2"}, []string{"0 7 10 3"})
		parts := blockOn(proofFor(whole.Blocks[1], n), 5, n, "0 1 300 2", "1 7 1300 0")
		whole.Blocks = append(whole.Blocks, parts, blockOn(impl.Proof{}, 6, n, "0 3 1000 0"))
		_, codes := impl.Ran(whole)
		for size, sum := range []int64{0, 10, 20, 30, 40} {
			r := replicaAs(whole, func(r *impl.Replica) { r.Done = r.Done[:size] })
			moves := int64(len(movesOf(whole.Blocks[:size])))
			wantRan(t, fmt.Sprint("so many Done: ", size), r, bankWith([]int64{1000 - sum, 1000, 1000, 1000, 1000, 1000, 1000, 1000 + sum}, []int64{sum / 10, 0, 0, 0, 0, 0, 0, 0}), codes[:moves]...)
		}
		other := replicaAs(whole, func(r *impl.Replica) { r.Done = append(r.Done[:2], impl.Name(parts)) })
		wantRan(t, "what parts", other, bankWith([]int64{680, 0, 1000, 1000, 1000, 1000, 1000, 2320}, []int64{3, 1, 0, 0, 0, 0, 0, 0}), 0, 0, 1, 0, 0)
		last := replicaAs(whole, func(r *impl.Replica) { r.Done = namesOf(r.Blocks[5:]) })
		wantRan(t, "one beside", last, bankWith([]int64{0, 1000, 1000, 2000, 1000, 1000, 1000, 1000}, []int64{1, 0, 0, 0, 0, 0, 0, 0}), 0)
	}
}

// The Blocks come in the order of the chain, and the Moves of each in theirs: every order of these is another script.
func TestRanInOrder(t *testing.T) {
	moves := []string{"0 1 1000 0", "1 2 2000 0", "2 0 3000 0", "0 1 1 1"}
	seen := map[string]int{}
	inEachOrder(moves, func(list []string) {
		want, wantCodes := movedAllByRule(bankAtFirst(), list)
		for _, r := range []impl.Replica{
			lineWith(4, list),
			lineWith(4, list[:1], list[1:2], list[2:3], list[3:]),
			lineWith(4, nil, list[:2], nil, list[2:], nil),
		} {
			wantRan(t, fmt.Sprint(list), r, want, wantCodes...)
		}
		seen[fmt.Sprint(wantCodes, want)]++
	})
	if len(seen) < 8 {
		t.Error(seen)
	}
}

// However Moves are dealt out to Blocks, they run alike.
func TestRanOfEachSplit(t *testing.T) {
	moves := []string{"0 7 10 0", "0 7 10 0", "x", "0 1 990 1", "1 2 1991 0", "1 2 1990 0", "", "7 0 1010 0"}
	want, wantCodes := movedAllByRule(bankAtFirst(), moves)
	if !slices.Equal(wantCodes, []int64{0, 2, 1, 0, 3, 0, 1, 0}) {
		t.Fatal(wantCodes)
	}
	for cuts := range 1 << (len(moves) - 1) {
		blocks := [][]string{nil}
		for i, move := range moves {
			last := len(blocks) - 1
			blocks[last] = append(blocks[last], move)
			if cuts>>i&1 == 1 {
				blocks = append(blocks, nil)
			}
		}
		wantRan(t, fmt.Sprint(blocks), lineWith(1, blocks...), want, wantCodes...)
	}
}

func TestRanOfTextsThatAreNoMoves(t *testing.T) {
	texts := 0
	for what, text := range nearTexts() {
		if len(text) <= mostMoveText {
			wantRan(t, what, lineWith(4, []string{text, "0 7 10 0"}), bankWith([]int64{990, 1000, 1000, 1000, 1000, 1000, 1000, 1010}, []int64{1, 0, 0, 0, 0, 0, 0, 0}), 1, 0)
			texts++
		}
	}
	if texts < 30 {
		t.Error(texts)
	}
}

// Sixty Blocks of ten Moves each, which is all there can be.
func TestRanOfSixHundredMoves(t *testing.T) {
	for _, n := range someServers {
		moves, at := [][]string{}, int64(0)
		for range mostBlocks {
			list := []string{}
			for range mostMoves {
				list = append(list, fmt.Sprint(at%8, " ", (at+1)%8, " 7 ", at/8))
				at++
			}
			moves = append(moves, list)
		}
		want := bankWith(eight(1000), eight(75))
		wantRan(t, "six hundred", lineWith(n, moves...), want, make([]int64, 600)...)
	}
}

// What is run already stays as it was: the codes of a shorter Done begin those of a longer one.
func TestRanGrows(t *testing.T) {
	source := rand.New(rand.NewSource(85))
	for range 30 {
		b, moves := bankAtFirst(), [][]string{}
		for range 20 {
			list := []string{}
			for range source.Intn(5) {
				text := anyMoveText(source, b)
				b, _ = movedAllByRule(b, []string{text})
				list = append(list, text)
			}
			moves = append(moves, list)
		}
		whole := lineWith(someServers[source.Intn(3)], moves...)
		_, codes := impl.Ran(whole)
		if !slices.Contains(codes, 0) || len(codes) < 20 {
			t.Fatal(codes)
		}
		for size := range len(whole.Done) {
			r := replicaAs(whole, func(r *impl.Replica) { r.Done = r.Done[:size] })
			checkLedger(t, "shorter", r)
			if _, some := impl.Ran(r); !begins(some, codes) {
				t.Fatalf("%v does not begin %v", some, codes)
			}
		}
	}
}

func TestLedgersOfRightReplicas(t *testing.T) {
	for _, n := range someServers {
		longest := 0
		for what, r := range rightReplicas(n) {
			chain, _ := checkLedger(t, what, r)
			longest = max(longest, len(chain))
		}
		if longest < 5 {
			t.Errorf("of %d: %d", n, longest)
		}
	}
}

func TestLedgersOfWrongReplicas(t *testing.T) {
	for _, n := range someServers {
		for what, r := range wrongReplicas(n) {
			if chain := impl.Chain(r); len(chain) > 0 {
				t.Errorf("of %d, %s: %s", n, what, shortly(chain))
			}
			if b, codes := impl.Ran(r); !isZeroBank(b) || len(codes) > 0 {
				t.Errorf("of %d, %s: %v and %v", n, what, b, codes)
			}
		}
	}
}

func TestLedgersOfAnyReplicas(t *testing.T) {
	source := rand.New(rand.NewSource(86))
	lengths := map[int]int{}
	for at := range 600 {
		r := anyReplica(source, someServers[at%3])
		chain, _ := checkLedger(t, "any", r)
		lengths[len(chain)]++
		bent := replicaAs(r, func(r *impl.Replica) { r.Done = append(r.Done, source.Int63n(mostName)) })
		checkLedger(t, "bent", bent)
		if len(impl.Chain(bent)) > 0 {
			t.Fatalf("bent: %s", shortly(bent))
		}
	}
	for length := range 5 {
		if lengths[length] < 5 {
			t.Error(lengths)
		}
	}
}

// twoLines have so many Blocks together, then so many each of its own.
func twoLines(n int64, trunk int, left int, right int) ([]impl.Block, []impl.Block) {
	both := chainOf(n, rising(1, trunk)...)
	p, view := impl.Proof{}, int64(trunk)+1
	if trunk > 0 {
		p = proofFor(both[trunk-1], n)
	}
	a := append(slices.Clone(both), chainOn(p, n, rising(view, left)...)...)
	if right == 0 {
		return a, both
	}
	parts := blockOn(p, view, n, "parts")
	b := append(append(slices.Clone(both), parts), chainOn(proofFor(parts, n), n, rising(view+1, right-1)...)...)
	return a, b
}

// eachTwo are two places that are not one, in either order.
func eachTwo(n int64, with func(a int64, b int64)) {
	for a := range n {
		for b := range n {
			if a != b {
				with(a, b)
			}
		}
	}
}

// withTwo has these where two others were.
func withTwo(c impl.Cluster, a int64, first impl.Replica, b int64, second impl.Replica) impl.Cluster {
	first.Id, second.Id = a, b
	return withOne(withOne(c, a, first), b, second)
}

func TestLedgersOfNewClusters(t *testing.T) {
	for _, n := range someServers {
		wantLedgers(t, "new", newCluster(n), true, true)
		wantLedgers(t, "some", someCluster(n), true, true)
		wantLedgers(t, "busy", busy(n), true, true)
	}
}

func TestLedgersOfRightClusters(t *testing.T) {
	for _, n := range someServers {
		counts := map[string]int{}
		for what, c := range rightClusters(n) {
			agreed, apart := checkLedgers(t, fmt.Sprint("of ", n, ", ", what), c)
			counts[fmt.Sprint(agreed, " and ", apart)]++
		}
		if counts["true and true"] < 50 {
			t.Error(counts)
		}
	}
}

func TestLedgersOfWrongClusters(t *testing.T) {
	for _, n := range someServers {
		for what, c := range wrongClusters(n) {
			if impl.Agreed(c) || impl.Apart(c) {
				t.Errorf("of %d, %s: %v and %v", n, what, impl.Agreed(c), impl.Apart(c))
			}
		}
	}
}

// Of one server alone there is nobody with whom to part.
func TestLedgersOfOneServer(t *testing.T) {
	for what, r := range rightReplicas(1) {
		wantLedgers(t, what, clusterOf(r), true, true)
	}
}

// Of two Done one begins the other where one of them has nothing of its own, whoever has them.
func TestAgreedOfTwoLines(t *testing.T) {
	for _, n := range []int64{4, 7} {
		for _, trunk := range []int{0, 1, 4} {
			for left := range 3 {
				for right := range 3 {
					a, b := twoLines(n, trunk, left, right)
					name := fmt.Sprint("of ", n, ": ", trunk, " together, then ", left, " and ", right)
					rest := slices.Repeat([]impl.Replica{doneOf(n, a, a[:trunk]...)}, int(n))
					eachTwo(n, func(i int64, j int64) {
						want := left == 0 || right == 0
						wantLedgers(t, name, withTwo(newCluster(n), i, doneOf(n, a, a...), j, doneOf(n, b, b...)), want, true)
						wantLedgers(t, name+", all others with what is together", withTwo(clusterOf(rest...), i, doneOf(n, a, a...), j, doneOf(n, b, b...)), want, true)
					})
				}
			}
		}
	}
}

// Two that are long part at the first Name, at one in the middle, at the last: one is enough.
func TestAgreedWhereLongOnesPart(t *testing.T) {
	for _, size := range []int{1, 2, 6, 60} {
		for _, trunk := range []int{0, size / 2, size - 1, size} {
			for shorter := range 2 {
				a, b := twoLines(4, trunk, size-trunk, max(0, size-trunk-shorter))
				want := len(b) == trunk
				eachTwo(4, func(i int64, j int64) {
					name := fmt.Sprint(trunk, " of ", size, ", ", shorter, " shorter, at ", i, " and ", j)
					wantLedgers(t, name, withTwo(newCluster(4), i, doneOf(4, a, a...), j, doneOf(4, b, b...)), want, true)
				})
			}
		}
	}
}

// All sizes of one line, in each place: all are agreed on.
func TestAgreedOfOneLine(t *testing.T) {
	for _, n := range someServers {
		line := chainOf(n, rising(1, 12)...)
		source := rand.New(rand.NewSource(87))
		for range 60 {
			replicas := []impl.Replica{}
			for range n {
				replicas = append(replicas, doneOf(n, line, line[:source.Intn(13)]...))
			}
			wantLedgers(t, "one line", clusterOf(replicas...), true, true)
		}
		wantLedgers(t, "all the same", clusterOf(slices.Repeat([]impl.Replica{doneOf(n, line, line...)}, int(n))...), true, true)
		for id := range n {
			wantLedgers(t, "one alone", withOne(newCluster(n), id, replicaAs(doneOf(n, line, line...), func(r *impl.Replica) { r.Id = id })), true, true)
		}
	}
}

// twigs are lines on one stem: nothing, one, two and three in a row, and two that part.
func twigs(n int64) []impl.Replica {
	long, other := twoLines(n, 1, 2, 2)
	all := append(slices.Clone(long), other[1:]...)
	replicas := []impl.Replica{}
	for _, done := range [][]impl.Block{nil, long[:1], long[:2], long, other[:2], other} {
		replicas = append(replicas, doneOf(n, all, done...))
	}
	return replicas
}

// Every cluster of four whose Done are twigs.
func TestAgreedOfAllTwigs(t *testing.T) {
	few := twigs(4)
	agreed := 0
	for a := range few {
		for b := range few {
			for c := range few {
				for d := range few {
					if is, _ := checkLedgers(t, fmt.Sprint(a, b, c, d), clusterOf(few[a], few[b], few[c], few[d])); is {
						agreed++
					}
				}
			}
		}
	}
	// Nobody is at 4 and 5, or nobody is at 2 and 3; and both hold where all are at 0 and 1.
	if agreed != 2*4*4*4*4-2*2*2*2 {
		t.Error(agreed)
	}
}

// One that begins two does not make these two alike, in whichever order the three come, and whatever the others have.
func TestAgreedOfThree(t *testing.T) {
	few := twigs(7)
	for least := range 2 {
		eachTwo(7, func(long int64, other int64) {
			for short := range int64(7) {
				if short == long || short == other {
					continue
				}
				c := withTwo(newCluster(7), long, few[3], other, few[5])
				c = withOne(c, short, replicaAs(few[least], func(r *impl.Replica) { r.Id = short }))
				wantLedgers(t, fmt.Sprint(least, " at ", short, ", two at ", long, " and ", other), c, false, true)
				c = withOne(c, other, replicaAs(few[2], func(r *impl.Replica) { r.Id = other }))
				wantLedgers(t, fmt.Sprint(least, " at ", short, ", two in line at ", long, " and ", other), c, true, true)
			}
		})
	}
}

// One among six that are alike is enough.
func TestAgreedWhereOneParts(t *testing.T) {
	for _, n := range []int64{4, 7} {
		few := twigs(n)
		for id := range n {
			for at, want := range []bool{true, true, true, true, false, false} {
				c := clusterOf(slices.Repeat([]impl.Replica{few[3]}, int(n))...)
				wantLedgers(t, fmt.Sprint("number ", at, " at ", id), withOne(c, id, replicaAs(few[at], func(r *impl.Replica) { r.Id = id })), want, true)
			}
		}
	}
}

// What else the Replicas have is not asked about.
func TestAgreedOfDoneAlone(t *testing.T) {
	for _, n := range []int64{4, 7} {
		for _, want := range []bool{true, false} {
			a, b := twoLines(n, 1, 1, 1)
			if want {
				b = a[:1]
			}
			c := withTwo(newCluster(n), 0, doneOf(n, a, a...), n-1, doneOf(n, b, b...))
			for what, change := range map[string]func(*impl.Replica){
				"View":      func(r *impl.Replica) { r.View = 9 },
				"Voted":     func(r *impl.Replica) { r.Voted = 9 },
				"Locked":    func(r *impl.Replica) { r.Locked = 9 },
				"Proposed":  func(r *impl.Replica) { r.Proposed = 9 },
				"High":      func(r *impl.Replica) { r.High = proofForBy(r.Blocks[0], serversTo(n)...) },
				"Votes":     func(r *impl.Replica) { r.Votes = manyVotes(60) },
				"News":      func(r *impl.Replica) { r.News = manyNews(30) },
				"no Blocks": func(r *impl.Replica) { r.Blocks = r.Blocks[:len(r.Done)] },
				"Blocks":    func(r *impl.Replica) { r.Blocks = append(r.Blocks, manyBlocks(n, 5, 50)...) },
				"Blocks on": func(r *impl.Replica) { r.Blocks = append(r.Blocks, chainOn(proofFor(r.Blocks[0], n), n, 7, 8)...) },
			} {
				for _, id := range []int64{0, n - 1} {
					wantLedgers(t, what, withOne(c, id, replicaAs(c.Replicas[id], change)), want, true)
				}
			}
			wantLedgers(t, "under way", onNet(onNet(c, proposal(0, 1, a[1]), proposal(0, 1, blockOn(impl.Proof{}, 3, n, "x"))), idle(100, n)...), want, true)
		}
	}
}

// sizedClusters are agreed on and not, of few Done and of many.
func sizedClusters() map[string]impl.Cluster {
	a, b := twoLines(7, 20, 20, 20)
	short, other := twoLines(4, 0, 1, 1)
	return map[string]impl.Cluster{
		"new":                newCluster(7),
		"one server":         clusterOf(someReplica(1)),
		"alike":              clusterOf(slices.Repeat([]impl.Replica{doneOf(7, a, a...)}, 7)...),
		"parted":             withTwo(newCluster(7), 2, doneOf(7, a, a...), 5, doneOf(7, b, b...)),
		"parted, all others": withTwo(clusterOf(slices.Repeat([]impl.Replica{doneOf(7, a, a...)}, 7)...), 0, doneOf(7, b, b...), 6, doneOf(7, b, b[:30]...)),
		"short, parted":      withTwo(newCluster(4), 0, doneOf(4, short, short...), 3, doneOf(4, other, other...)),
		"not right":          {},
	}
}

// However its goroutines run, Agreed answers alike: on one processor and on many, and to many who ask at once.
func TestAgreedAnswersAlike(t *testing.T) {
	before := runtime.GOMAXPROCS(0)
	defer runtime.GOMAXPROCS(before)
	for what, c := range sizedClusters() {
		want := agreedByRule(c)
		for _, processors := range []int{1, 2, 8} {
			runtime.GOMAXPROCS(processors)
			all := sync.WaitGroup{}
			others := make([]int, 4)
			for i := range others {
				all.Go(func() {
					for range 12 {
						if impl.Agreed(c) != want {
							others[i]++
						}
					}
				})
			}
			all.Wait()
			if slices.Max(others) > 0 {
				t.Errorf("%s, on %d: %v", what, processors, others)
			}
		}
	}
}

// None of its goroutines stays, whether it says true or false.
func TestAgreedLeavesNobodyBehind(t *testing.T) {
	before := runtime.NumGoroutine()
	for range 20 {
		for _, c := range sizedClusters() {
			impl.Agreed(c)
			impl.Apart(c)
		}
	}
	// One that has told what it had to may still be on its way out.
	for tries := 0; runtime.NumGoroutine() > before && tries < 100000; tries++ {
		runtime.Gosched()
	}
	if got := runtime.NumGoroutine(); got > before {
		t.Errorf("%d, not %d", got, before)
	}
}

// unlikePairs are lines whose last Blocks have one Name and are not alike, by the field in which they are not.
func unlikePairs(n int64) map[string][2][]impl.Block {
	first := impl.Proof{}
	two := twins(n)
	pairs := map[string][2][]impl.Block{
		"View, By and a Move": {two[0][:1], two[0][1:]},
		"a Move":              {two[1][:1], two[1][1:]},
		"how many Moves":      {{blockOn(first, 1, n, "jthvzt")}, {blockOn(first, 1, n, "jq", "catw")}},
		"Parent":              pairOnParents(n),
		"the Proof's View":    pairOnViews(n),
	}
	if n > 1 {
		views := map[int64][2]int64{4: {768, 21809}, 7: {770, 22065}}[n]
		moves := []string{wide('m', 60), wide('m', 60), wide('m', 30)}
		pairs["View and By"] = [2][]impl.Block{{blockOn(first, views[0], n, moves...)}, {blockOn(first, views[1], n, moves...)}}
		pairs["who signed"] = pairOfSigners(n)
	}
	return pairs
}

func wide(letter byte, count int) string {
	return string(slices.Repeat([]byte{letter}, count))
}

// pairOnParents has children that are alike but for whom they are on.
func pairOnParents(n int64) [2][]impl.Block {
	texts := map[int64][2]string{1: {"kqhaa", "jejba"}, 4: {"ewiaa", "ksjaa"}, 7: {"povaa", "astfa"}}[n]
	pair := [2][]impl.Block{}
	for i, text := range texts {
		parent := blockOn(impl.Proof{}, 1, n, text)
		pair[i] = []impl.Block{parent, blockOn(proofFor(parent, n), 2, n)}
	}
	return pair
}

// pairOnViews has children of parents that have one Name and two Views.
func pairOnViews(n int64) [2][]impl.Block {
	texts := map[int64][2]string{1: {"hhfodj", "itjghp"}, 4: {"aojinf", "lysepz"}, 7: {"kivkzz", "oxeoud"}}[n]
	pair := [2][]impl.Block{}
	for i, parent := range twins(n)[0] {
		pair[i] = []impl.Block{parent, blockOn(proofFor(parent, n), 5, n, texts[i])}
	}
	return pair
}

// pairOfSigners has children that are alike but for who voted for the parent.
func pairOfSigners(n int64) [2][]impl.Block {
	parent := blockOn(impl.Proof{}, 1, n, map[int64]string{4: "wybou", 7: "ldthe"}[n])
	servers := map[int64][2][]int64{4: {{1, 2, 3}, {0, 1, 2, 3}}, 7: {{0, 1, 2, 3, 4}, {1, 3, 4, 5, 6}}}[n]
	pair := [2][]impl.Block{}
	for i, some := range servers {
		pair[i] = []impl.Block{parent, blockOn(proofForBy(parent, some...), 2, n)}
	}
	return pair
}

// Two unlike Blocks of one Name are in no Replica, and where they are in two, these are not apart.
func TestApartOfUnlikeBlocks(t *testing.T) {
	for _, n := range someServers {
		for what, pair := range unlikePairs(n) {
			name := fmt.Sprint("of ", n, ", ", what)
			a, b := pair[0][len(pair[0])-1], pair[1][len(pair[1])-1]
			if impl.Name(a) != impl.Name(b) || sameBlock(a, b) || !impl.BlockOk(a, n) || !impl.BlockOk(b, n) {
				t.Fatalf("%s: %s and %s", name, shortly(a), shortly(b))
			}
			for _, line := range pair {
				wantLedgers(t, name, clusterOf(slices.Repeat([]impl.Replica{withBlocks(0, n, line...)}, int(n))...), true, true)
			}
			for _, both := range [][]impl.Block{slices.Concat(pair[0], pair[1]), slices.Concat(pair[1], pair[0])} {
				c := withOne(newCluster(n), 0, withBlocks(0, n, both...))
				if impl.ClusterOk(c) || impl.Agreed(c) || impl.Apart(c) {
					t.Errorf("%s, in one Replica: %v, %v and %v", name, impl.ClusterOk(c), impl.Agreed(c), impl.Apart(c))
				}
			}
			eachTwo(n, func(i int64, j int64) {
				c := withTwo(newCluster(n), i, withBlocks(i, n, pair[0]...), j, withBlocks(j, n, pair[1]...))
				wantLedgers(t, name, c, true, false)
				c = withTwo(someCluster(n), i, withBlocks(i, n, pair[0]...), j, withBlocks(j, n, pair[1]...))
				wantLedgers(t, name+", among some", c, true, false)
			})
		}
	}
}

// The two may stand anywhere among many Blocks.
func TestApartOfUnlikeBlocksAmongMany(t *testing.T) {
	two := twins(4)[1]
	many := manyBlocks(4, 1, 59)
	for _, i := range []int{0, 1, 30, 58, 59} {
		for _, j := range []int{0, 1, 30, 58, 59} {
			a, b := slices.Insert(slices.Clone(many), i, two[0]), slices.Insert(slices.Clone(many), j, two[1])
			eachTwo(4, func(at int64, other int64) {
				c := withTwo(newCluster(4), at, withBlocks(at, 4, a...), other, withBlocks(other, 4, b...))
				wantLedgers(t, fmt.Sprint(i, " at ", at, ", ", j, " at ", other), c, true, false)
			})
		}
	}
	// Where a third one has one of the two as well, or all have, it is as it was.
	all := clusterOf(slices.Repeat([]impl.Replica{withBlocks(0, 7, twins(7)[0][0])}, 7)...)
	for id := range int64(7) {
		wantLedgers(t, "one has the other", withOne(all, id, withBlocks(id, 7, twins(7)[0][1])), true, false)
	}
}

// What is agreed on by its Name may be two unlike Blocks: Agreed asks for Names.
func TestAgreedOfUnlikeBlocksOfOneName(t *testing.T) {
	for _, n := range []int64{4, 7} {
		for what, pair := range unlikePairs(n) {
			a, b := doneOf(n, pair[0], pair[0]...), doneOf(n, pair[1], pair[1]...)
			want := slices.Equal(a.Done, b.Done)
			eachTwo(n, func(i int64, j int64) {
				wantLedgers(t, fmt.Sprint(what, " of ", n), withTwo(newCluster(n), i, a, j, b), want, false)
			})
			if want == (what == "Parent") {
				t.Errorf("%s of %d: %v", what, n, want)
			}
			chains := [2][]impl.Block{impl.Chain(a), impl.Chain(b)}
			last := len(chains[0]) - 1
			if sameBlock(chains[0][last], chains[1][last]) {
				t.Errorf("%s of %d: %s", what, n, shortly(chains))
			}
		}
	}
}

func TestApartOfBlocksThatAreAlike(t *testing.T) {
	for _, n := range someServers {
		line, many := chainOf(n, rising(1, 20)...), manyBlocks(n, 3, 20)
		all := append(slices.Clone(line), many...)
		back := append(slices.Clone(many), line...)
		last := n - 1
		wantLedgers(t, "the same Blocks", clusterOf(slices.Repeat([]impl.Replica{withBlocks(0, n, all...)}, int(n))...), true, true)
		eachTwo(n, func(i int64, j int64) {
			for what, two := range map[string][2][]impl.Block{
				"in another order":    {all, back},
				"Blocks of another":   {line, many},
				"some of them":        {all, line[:7]},
				"none":                {all, nil},
				"of one View and Bys": {many[:10], many[10:]},
			} {
				wantLedgers(t, what, withTwo(newCluster(n), i, withBlocks(i, n, two[0]...), j, withBlocks(j, n, two[1]...)), true, true)
			}
		})
		wantLedgers(t, "one alone", withOne(newCluster(n), last, withBlocks(last, n, all...)), true, true)
		// An empty list and nil are alike.
		a, b := blockOn(impl.Proof{}, 1, n), blockOn(impl.Proof{By: []int64{}, Tags: []int64{}}, 1, n)
		a.Moves, b.Moves = nil, []string{}
		if n > 1 {
			wantLedgers(t, "empty lists", withTwo(newCluster(n), 0, withBlocks(0, n, a), last, withBlocks(last, n, b)), true, true)
		}
	}
}

// What is under way is nobody's yet.
func TestApartOfBlocksUnderWay(t *testing.T) {
	for _, n := range []int64{4, 7} {
		two := twins(n)[0]
		held := withOne(newCluster(n), 0, withBlocks(0, n, two[0]))
		wantLedgers(t, "the other is under way", onNet(held, proposal(1, 2, two[1])), true, true)
		wantLedgers(t, "both are under way", onNet(newCluster(n), proposal(1, 0, two[0]), proposal(1, 2, two[1])), true, true)
		c, code := impl.Act(onNet(held, proposal(1, 2, two[1])), impl.Op{Kind: impl.OpDeliver})
		if code != 0 {
			t.Errorf("of %d: %d", n, code)
		}
		wantLedgers(t, "it has come", c, true, false)
		// One that has the one does not take the other.
		c, code = impl.Act(onNet(held, proposal(1, 0, two[1])), impl.Op{Kind: impl.OpDeliver})
		if code != 0 {
			t.Errorf("of %d: %d", n, code)
		}
		wantLedgers(t, "it was not taken", c, true, true)
	}
}

// Clusters as they may stand anywhere, with Blocks of which some are shared.
func TestLedgersOfAnyClusters(t *testing.T) {
	source := rand.New(rand.NewSource(88))
	counts := map[string]int{}
	for at := range 240 {
		n := someServers[at%3]
		c := anyCluster(source, n)
		if at%2 == 0 {
			r := anyReplica(source, n)
			for i := range c.Replicas {
				c.Replicas[i] = replicaAs(r, func(r *impl.Replica) { r.Id, r.Done = int64(i), anyLine(source, *r) })
			}
		}
		if pair := twins(n)[at%2]; source.Intn(2) == 0 {
			id := source.Int63n(n)
			c = withOne(c, id, withBlocks(id, n, pair[0]))
			id = source.Int63n(n)
			c = withOne(c, id, withBlocks(id, n, pair[1]))
		}
		agreed, apart := checkLedgers(t, "any", c)
		counts[fmt.Sprint(agreed, " and ", apart)]++
		for i, r := range c.Replicas {
			checkLedger(t, fmt.Sprint("server ", i), r)
		}
		bent := clusterAs(c, func(c *impl.Cluster) { c.Replicas[source.Intn(len(c.Replicas))].Id++ })
		if agreed, apart := checkLedgers(t, "bent", bent); agreed || apart {
			t.Fatalf("bent: %s", shortly(bent))
		}
	}
	for _, what := range []string{"true and true", "true and false", "false and true", "false and false"} {
		if counts[what] < 5 {
			t.Error(counts)
		}
	}
}

// ballot is what a server voted for, without its Tag.
type ballot struct{ server, view, name int64 }

// plot is a cluster in which the last servers lie, with all that they can know of.
type plot struct {
	cluster impl.Cluster
	honest  int64
	cast    map[ballot]int
	blocks  []impl.Block
	said    []impl.Message
	script  []impl.Op
	forges  bool
}

func plotOf(n int64) *plot {
	return &plot{cluster: newCluster(n), honest: quorumByRule(n), cast: map[ballot]int{}}
}

func (p *plot) n() int64 {
	return int64(len(p.cluster.Replicas))
}

func (p *plot) know(b impl.Block) {
	if placeOf(p.blocks, b.View, impl.Name(b)) < 0 {
		p.blocks = append(p.blocks, b)
	}
}

func (p *plot) hear(m impl.Message) {
	p.said = append(p.said, m)
	if m.Kind == impl.MsVote {
		p.cast[ballot{m.Vote.By, m.Vote.View, m.Vote.Name}]++
	}
}

// act keeps what became known by an Op: Blocks where they are taken, Votes where they are taken or under way.
func (p *plot) act(t *testing.T, op impl.Op) {
	t.Helper()
	if len(p.script) == mostOfPlot {
		return
	}
	before := p.cluster
	next, code := impl.Act(before, op)
	if code == 2 {
		t.Fatalf("not right any more: %s", shortly(before))
	}
	for i, r := range next.Replicas {
		grown := r.Blocks[len(before.Replicas[i].Blocks):]
		for _, b := range grown {
			p.know(b)
		}
		for _, v := range r.Votes {
			p.cast[ballot{v.By, v.View, v.Name}]++
		}
	}
	for _, m := range next.Net[min(len(before.Net), len(next.Net)):] {
		p.hear(m)
	}
	// A delivery may take the room of the one that is delivered.
	if len(next.Net) > 0 {
		p.hear(next.Net[len(next.Net)-1])
	}
	p.cluster, p.script = next, append(p.script, op)
}

// The promise speaks of so many ops.
const mostOfPlot = 100

// signers are those who signed for a Block, and those who sign whatever they are asked to.
func (p *plot) signers(b impl.Block) []int64 {
	servers, name := []int64{}, impl.Name(b)
	for server := range p.n() {
		if server >= p.honest || p.forges || p.cast[ballot{server, b.View, name}] > 0 {
			servers = append(servers, server)
		}
	}
	return servers
}

// proofOn is one that a quorum signed, and the first one where this Block has none.
func (p *plot) proofOn(source *rand.Rand, b impl.Block) impl.Proof {
	servers := p.signers(b)
	more := len(servers) - int(quorumByRule(p.n()))
	if more < 0 {
		return impl.Proof{}
	}
	for range source.Intn(more + 1) {
		at := source.Intn(len(servers))
		servers = slices.Delete(servers, at, at+1)
	}
	return proofForBy(b, servers...)
}

// anyProof is mostly one of a Block that came late.
func (p *plot) anyProof(source *rand.Rand) impl.Proof {
	for range min(3, len(p.blocks)) {
		if on := p.proofOn(source, pick(source, p.blocks)); on.View > 0 {
			return on
		}
	}
	return impl.Proof{}
}

// anyBlock is of a View that is due, or behind what it is on.
func (p *plot) anyBlock(source *rand.Rand) impl.Block {
	on := p.anyProof(source)
	view := on.View + 1
	if more := source.Int63n(3); more > 0 {
		for _, b := range p.blocks {
			view = max(view, b.View+more-1)
		}
	}
	return blockOn(on, view, p.n(), p.anyMoves(source)...)
}

func (p *plot) anyMoves(source *rand.Rand) []string {
	return []string{fmt.Sprint(source.Intn(8), " ", source.Intn(8), " ", 1+source.Intn(900), " ", source.Intn(3))}
}

// tell has a lie heard at once, whoever is said to tell it.
func (p *plot) tell(t *testing.T, to int64, m impl.Message) {
	t.Helper()
	m.From, m.To = (to+1)%p.n(), to
	p.act(t, impl.Op{Kind: impl.OpLie, Message: m})
	p.act(t, impl.Op{Kind: impl.OpDeliver, Index: int64(len(p.cluster.Net)) - 1})
}

// bring tells of a Block, and first of those that it hangs on and that are not known there.
func (p *plot) bring(t *testing.T, to int64, view int64, name int64) {
	t.Helper()
	at := placeOf(p.blocks, view, name)
	if at < 0 {
		return
	}
	for _, b := range (&words{Replica: impl.Replica{Blocks: p.blocks}}).lineTo(at) {
		if placeOf(p.cluster.Replicas[to].Blocks, b.View, impl.Name(b)) < 0 {
			p.tell(t, to, proposal(to, to, b))
		}
	}
}

// split has a Block that some honest servers hear of, as many as make a quorum with those who lie, or one more.
func (p *plot) split(t *testing.T, source *rand.Rand) {
	t.Helper()
	b := p.anyBlock(source)
	p.know(b)
	count := quorumByRule(p.n()) - (p.n() - p.honest) + source.Int63n(2)
	for _, to := range anyServers(source, p.honest, count) {
		p.bring(t, to, b.View, impl.Name(b))
	}
}

// show has an honest server take a Proof.
func (p *plot) show(t *testing.T, source *rand.Rand) {
	t.Helper()
	on, to := p.anyProof(source), source.Int63n(p.honest)
	p.bring(t, to, on.View, on.Name)
	p.tell(t, to, newsTo(to, to, 0, on))
}

// lie is under way like all else, and signed by those who lie.
func (p *plot) lie(source *rand.Rand) impl.Message {
	to := source.Int63n(p.n())
	from := (to + 1 + source.Int63n(p.n()-1)) % p.n()
	switch chance := source.Intn(100); {
	case chance < 40 || len(p.blocks) == 0:
		return proposal(from, to, p.anyBlock(source))
	case chance < 60:
		return proposal(from, to, pick(source, p.blocks))
	case chance < 80:
		b := pick(source, p.blocks)
		liar := p.honest + source.Int63n(p.n()-p.honest)
		m := ballotTo((b.View+1)%p.n(), voteFor(b, liar))
		m.From = (m.To + 1) % p.n()
		return m
	case chance < 90:
		view := p.cluster.Replicas[to].View
		return newsTo(from, to, view+(to-view%p.n()+p.n())%p.n(), p.anyProof(source))
	}
	return pick(source, p.said)
}

// goOn is what the servers do, and what becomes of messages.
func (p *plot) goOn(t *testing.T, source *rand.Rand) {
	t.Helper()
	op := impl.Op{Kind: impl.OpDeliver, Server: source.Int63n(p.n())}
	if size := len(p.cluster.Net); size > 0 {
		op.Index = int64(min(source.Intn(size), source.Intn(size)))
	}
	switch chance := source.Intn(100); {
	case chance < 20:
		op.Kind, op.Server, op.Moves = impl.OpPropose, turnOf(source, p.cluster), p.anyMoves(source)
	case chance < 24:
		op.Kind = impl.OpTimeout
	case chance < 26:
		op.Kind = impl.OpRestart
	case chance < 29:
		op.Kind = impl.OpLose
	case chance < 33:
		op.Kind = impl.OpTwice
	case chance < 45:
		op.Kind, op.Message = impl.OpLie, p.lie(source)
	}
	p.act(t, op)
}

// run is a plot of as many ops as may be; of so many of a hundred the liars have their way.
func (p *plot) run(t *testing.T, source *rand.Rand, way int) {
	t.Helper()
	for len(p.script) < mostOfPlot {
		switch {
		case source.Intn(100) >= way:
			p.goOn(t, source)
		case source.Intn(4) == 0:
			p.show(t, source)
		default:
			p.split(t, source)
		}
	}
}

// Promise 18: as long as nobody signs for an honest server, and no two unlike Blocks have one Name, none part.
func TestNoTwoThatPart(t *testing.T) {
	source := rand.New(rand.NewSource(89))
	done, most := 0, 0
	for at := range 300 {
		p := plotOf([]int64{4, 4, 7}[at%3])
		p.run(t, source, []int{0, 90, 100}[source.Intn(3)])
		if agreed, apart := checkLedgers(t, "plot", p.cluster); !agreed || !apart {
			t.Fatalf("of %d: %v and %v: %s", p.n(), agreed, apart, shortly(p.cluster))
		}
		for _, r := range p.cluster.Replicas {
			checkLedger(t, "plot", r)
			done += len(r.Done)
			most = max(most, len(r.Done))
		}
	}
	if testing.Verbose() {
		t.Log(done, most)
	}
	if done < 1000 || most < 5 {
		t.Fatal(done, most)
	}
}

// Where somebody signs for honest servers, two may part, and nothing shows it but that they are not agreed.
func TestTwoPartWhereSomebodyForges(t *testing.T) {
	for _, n := range []int64{4, 7} {
		for trunk := range 3 {
			p := plotOf(n)
			a, b := twoLines(n, trunk, 3, 3)
			for to, line := range [][]impl.Block{a, b} {
				for _, b := range line {
					p.tell(t, int64(to), proposal(0, 0, b))
				}
				p.tell(t, int64(to), newsTo(0, 0, 0, proofFor(line[trunk+2], n)))
				if done := p.cluster.Replicas[to].Done; !slices.Equal(done, namesOf(line[:trunk+1])) {
					t.Errorf("of %d: %v, not of %s", n, done, shortly(line))
				}
				wantLedgers(t, "forged", p.cluster, to == 0, true)
			}
		}
	}
}

func TestAnyPlotsWhereSomebodyForges(t *testing.T) {
	source := rand.New(rand.NewSource(90))
	counts := map[string]int{}
	for at := range 90 {
		p := plotOf([]int64{4, 4, 7}[at%3])
		p.forges = true
		p.run(t, source, 100)
		agreed, apart := checkLedgers(t, "forged", p.cluster)
		counts[fmt.Sprint(agreed, " and ", apart)]++
		for _, r := range p.cluster.Replicas {
			checkLedger(t, "forged", r)
		}
	}
	if counts["true and true"] < 5 || counts["false and true"] < 1 {
		t.Error(counts)
	}
}

// stepOfPlot is a Block of this View on the one of that View, told to these, and who of them votes for it.
type stepOfPlot struct {
	view, on    int64
	told, voted []int64
}

// plots come near to two that part: of each the Views whose Proofs are shown at last, and what is Done then of any.
func plots() map[string]struct {
	steps []stepOfPlot
	shown []int64
	done  int
} {
	type form = struct {
		steps []stepOfPlot
		shown []int64
		done  int
	}
	a, b := []int64{0, 1}, []int64{0, 2}
	return map[string]form{
		"the last of three is not in a row": {[]stepOfPlot{
			{1, 0, a, a}, {2, 1, a, a}, {3, 0, b, b}, {4, 3, b, b}, {5, 2, a, a}, {6, 4, b, b},
		}, []int64{5, 6}, 0},
		"the first of three is not in a row": {[]stepOfPlot{
			{1, 0, a, a}, {2, 0, b, b}, {3, 1, a, a}, {4, 3, a, a}, {5, 2, b, b}, {6, 5, b, b},
		}, []int64{4, 6}, 0},
		"three in a row, and who voted for the third is locked": {[]stepOfPlot{
			{1, 0, a, a}, {2, 1, a, a}, {3, 2, a, a}, {4, 0, b, []int64{2}}, {5, 0, []int64{1, 2}, []int64{2}},
		}, []int64{3}, 1},
		"two in a row lock nobody": {[]stepOfPlot{
			{1, 0, a, a}, {2, 1, a, a}, {3, 0, b, b}, {4, 3, b, b}, {5, 4, b, b},
		}, []int64{5, 2}, 1},
		"two of each View": {[]stepOfPlot{
			{1, 0, a, a}, {1, 0, b, []int64{2}}, {2, 1, a, a}, {2, 1, b, []int64{2}}, {3, 2, a, a}, {3, 2, b, []int64{2}},
		}, []int64{3}, 1},
	}
}

// tellOf has the Block of this step heard, on the first one of that View that a quorum signed.
func (p *plot) tellOf(t *testing.T, at int, s stepOfPlot) impl.Block {
	t.Helper()
	on := impl.Proof{}
	for _, b := range p.blocks {
		if servers := p.signers(b); b.View == s.on && on.View == 0 && int64(len(servers)) >= quorumByRule(p.n()) {
			on = proofForBy(b, servers...)
		}
	}
	b := blockOn(on, s.view, p.n(), fmt.Sprint(at))
	p.know(b)
	for _, to := range s.told {
		p.bring(t, to, b.View, impl.Name(b))
	}
	return b
}

func TestNoTwoThatPartThoughTheyComeNear(t *testing.T) {
	for what, form := range plots() {
		p := plotOf(4)
		for at, s := range form.steps {
			b := p.tellOf(t, at, s)
			if want := append(slices.Clone(s.voted), 3); b.Proof.View != s.on || !slices.Equal(p.signers(b), want) {
				t.Fatalf("%s, step %d: %v signed, not %v: %s", what, at, p.signers(b), want, shortly(b))
			}
		}
		for at, view := range form.shown {
			b := p.blocks[slices.IndexFunc(p.blocks, func(b impl.Block) bool { return b.View == view })]
			to := int64(1 + at)
			p.bring(t, to, b.View, impl.Name(b))
			p.tell(t, to, newsTo(to, to, 0, proofForBy(b, p.signers(b)...)))
		}
		most := 0
		for _, r := range p.cluster.Replicas {
			checkLedger(t, what, r)
			most = max(most, len(r.Done))
		}
		if agreed, apart := checkLedgers(t, what, p.cluster); !agreed || !apart || most != form.done {
			t.Errorf("%s: %v, %v, and %d Done: %s", what, agreed, apart, most, shortly(p.cluster))
		}
	}
}

// onNetOf is done to the first message of this Kind to this server.
func onNetOf(t *testing.T, c impl.Cluster, op int64, kind int64, to int64) impl.Cluster {
	t.Helper()
	at := slices.IndexFunc(c.Net, func(m impl.Message) bool { return m.Kind == kind && m.To == to })
	return actedOn(t, c, impl.Op{Kind: op, Index: int64(at)})
}

func actedOn(t *testing.T, c impl.Cluster, op impl.Op) impl.Cluster {
	t.Helper()
	next, code := impl.Act(c, op)
	if code != 0 {
		t.Fatalf("%s: %d: %s", shortly(op), code, shortly(c))
	}
	return next
}

func withoutNet(c impl.Cluster) impl.Cluster {
	return clusterAs(c, func(c *impl.Cluster) { c.Net = nil })
}

// rivals are of Views 1 and 2, on the first Proof, each with the Votes of two honest servers, and children of one Name on them.
func rivals(t *testing.T) (impl.Cluster, [2]impl.Block) {
	t.Helper()
	c := actedOn(t, newCluster(4), impl.Op{Kind: impl.OpPropose, Server: 1, Moves: []string{"0 1 10 0"}})
	c = withoutNet(onNetOf(t, c, impl.OpDeliver, impl.MsPropose, 0))
	for _, server := range []int64{0, 3, 2} {
		c = actedOn(t, c, impl.Op{Kind: impl.OpTimeout, Server: server})
	}
	c = onNetOf(t, onNetOf(t, c, impl.OpDeliver, impl.MsNew, 2), impl.OpDeliver, impl.MsNew, 2)
	c = actedOn(t, c, impl.Op{Kind: impl.OpPropose, Server: 2, Moves: []string{"2 3 10 0"}})
	c = withoutNet(onNetOf(t, c, impl.OpDeliver, impl.MsPropose, 0))
	one, two := c.Replicas[1].Blocks[0], c.Replicas[2].Blocks[0]
	return c, [2]impl.Block{
		blockOn(proofForBy(one, 0, 1, 3), 3, 4, "arywzw"),
		blockOn(proofForBy(two, 0, 2, 3), 3, 4, "kpomct"),
	}
}

// A liar who has two unlike Blocks of one Name makes honest servers part, though nobody signs for them: that is what Apart tells.
func TestTwoPartByOneName(t *testing.T) {
	c, pair := rivals(t)
	if impl.Name(pair[0]) != impl.Name(pair[1]) || sameBlock(pair[0], pair[1]) {
		t.Fatal(impl.Name(pair[0]), impl.Name(pair[1]))
	}
	wantLedgers(t, "ahead", c, true, true)
	for to, at := range map[int64]int{0: 0, 1: 0, 2: 1} {
		c = actedOn(t, c, impl.Op{Kind: impl.OpLie, Message: proposal(3, to, pair[at])})
	}
	c = impl.Calm(c)
	wantLedgers(t, "with one Name", c, true, false)
	for _, leader := range []int64{0, 1, 2} {
		c = impl.Calm(actedOn(t, c, impl.Op{Kind: impl.OpPropose, Server: leader, Moves: []string{fmt.Sprint(leader)}}))
		wantLedgers(t, fmt.Sprint("behind ", leader), c, leader < 2, false)
	}
	for id, want := range [][]impl.Block{{c.Replicas[1].Blocks[0], pair[0]}, {c.Replicas[1].Blocks[0], pair[0]}, {c.Replicas[2].Blocks[0], pair[1]}} {
		wantChain(t, fmt.Sprint("server ", id), c.Replicas[id], want...)
	}
	wantRan(t, "the one", c.Replicas[1], bankWith([]int64{990, 1010, 1000, 1000, 1000, 1000, 1000, 1000}, []int64{1, 0, 0, 0, 0, 0, 0, 0}), 0, 1)
	wantRan(t, "the other", c.Replicas[2], bankWith([]int64{1000, 1000, 990, 1010, 1000, 1000, 1000, 1000}, []int64{0, 0, 1, 0, 0, 0, 0, 0}), 0, 1)
}

func blocksBegin(a []impl.Block, b []impl.Block) bool {
	return len(a) <= len(b) && slices.EqualFunc(a, b[:len(a)], sameBlock)
}

// chainsInLine tells of any two chains whether one begins the other, Block by Block.
func chainsInLine(c impl.Cluster) bool {
	chains := [][]impl.Block{}
	for _, r := range c.Replicas {
		chains = append(chains, impl.Chain(r))
	}
	for _, a := range chains {
		for _, b := range chains {
			if !blocksBegin(a, b) && !blocksBegin(b, a) {
				return false
			}
		}
	}
	return true
}

// Long drawn scripts with liars who sign for anyone, losses, doubles and restarts: what parts is told, and the money stays.
func TestLedgersByLongScripts(t *testing.T) {
	source := rand.New(rand.NewSource(91))
	counts, done := map[string]int{}, 0
	for at := range 36 {
		n := someServers[at%3]
		c := newCluster(n)
		if at/3%4 == 3 {
			c = anyCluster(source, n)
		}
		for range mostOps / 20 {
			for range 20 {
				c, _ = impl.Act(c, anyOp(source, c))
			}
			agreed, apart := checkLedgers(t, "long", c)
			if apart && agreed != chainsInLine(c) {
				t.Fatalf("agreed %v: %s", agreed, shortly(c))
			}
			counts[fmt.Sprint(agreed, " and ", apart)]++
		}
		for _, r := range c.Replicas {
			chain, _ := checkLedger(t, "long", r)
			done += len(chain)
		}
	}
	if testing.Verbose() {
		t.Log(counts, done)
	}
	if counts["true and true"] < 50 || done < 100 {
		t.Fatal(counts, done)
	}
}

// Where nobody lies all are agreed, whatever is lost or comes twice, and what has run stays.
func TestLedgersWithoutLiars(t *testing.T) {
	source := rand.New(rand.NewSource(92))
	done := 0
	for at := range 24 {
		c := newCluster(someServers[at%3])
		for range mostOps / 10 {
			before := c
			for range 10 {
				if op := anyOp(source, c); op.Kind != impl.OpLie {
					c, _ = impl.Act(c, op)
				}
			}
			if at%2 == 0 && source.Intn(6) == 0 {
				c = impl.Calm(c)
			}
			if agreed, apart := checkLedgers(t, "without liars", c); !agreed || !apart || !chainsInLine(c) {
				t.Fatalf("%v and %v: %s", agreed, apart, shortly(c))
			}
			for i, r := range c.Replicas {
				if !blocksBegin(impl.Chain(before.Replicas[i]), impl.Chain(r)) {
					t.Fatalf("server %d: %s became %s", i, shortly(before.Replicas[i]), shortly(r))
				}
			}
		}
		for _, r := range c.Replicas {
			chain, _ := checkLedger(t, "without liars", r)
			done += len(chain)
		}
	}
	if testing.Verbose() {
		t.Log(done)
	}
	if done < 100 {
		t.Fatal(done)
	}
}

// viewsOf are those of Blocks.
func viewsOf(blocks []impl.Block) []int64 {
	views := []int64{}
	for _, b := range blocks {
		views = append(views, b.View)
	}
	return views
}

// Where nobody lies and nothing is lost, each View's Block is Done but for the last three, until there is no room for another.
func TestLedgersWhereAllIsDelivered(t *testing.T) {
	source := rand.New(rand.NewSource(93))
	for _, n := range someServers {
		c, b, moves := newCluster(n), bankAtFirst(), [][]string{}
		for view := int64(1); view <= mostBlocks+1; view++ {
			list := []string{}
			for range source.Intn(4) {
				list = append(list, anyMoveText(source, b))
				b, _ = movedAllByRule(b, list[len(list)-1:])
			}
			moves = append(moves, list)
			c = impl.Calm(actedOn(t, c, impl.Op{Kind: impl.OpPropose, Server: view % n, Moves: list}))
			known := min(view, mostBlocks)
			for id, r := range c.Replicas {
				done := max(0, known-3)
				// Whose turn is next has the Votes for the last one already.
				if (known+1)%n == int64(id) && known > 2 {
					done = known - 2
				}
				name := fmt.Sprint("server ", id, " of ", n, " in View ", view)
				chain, _ := checkLedger(t, name, r)
				if !slices.Equal(viewsOf(chain), rising(1, int(done))) {
					t.Fatalf("%s: %v", name, viewsOf(chain))
				}
				want, wantCodes := movedAllByRule(bankAtFirst(), slices.Concat(moves[:done]...))
				wantRan(t, name, r, want, wantCodes...)
			}
			wantLedgers(t, fmt.Sprint("View ", view, " of ", n), c, true, true)
			// Of seven servers one gets 63 Votes in nine turns, and so can't keep those of all.
			if view == 28 {
				for id := range n {
					c = actedOn(t, c, impl.Op{Kind: impl.OpRestart, Server: id})
				}
			}
		}
	}
}

// A View without a Block keeps back what is ahead of it until there are three in a row behind it.
func TestLedgersWhereAViewIsPassedOver(t *testing.T) {
	for _, n := range []int64{4, 7} {
		c := newCluster(n)
		propose := func(view int64) {
			c = impl.Calm(actedOn(t, c, impl.Op{Kind: impl.OpPropose, Server: view % n, Moves: []string{fmt.Sprint("0 7 1 ", view-1)}}))
			wantLedgers(t, fmt.Sprint("View ", view, " of ", n), c, true, true)
		}
		for view := int64(1); view <= 4; view++ {
			propose(view)
		}
		// All others wait for View 5, whose leader alone has Votes for View 4; all go on to View 6.
		for c.Replicas[0].View < 6 {
			for id := range n {
				if c.Replicas[id].View < 6 {
					c = actedOn(t, c, impl.Op{Kind: impl.OpTimeout, Server: id})
				}
			}
			c = impl.Calm(c)
		}
		for at, size := range []int{2, 2, 2, 5, 6, 7} {
			view := int64(at) + 6
			propose(view)
			for id, r := range c.Replicas {
				want := []int64{1, 2, 3, 4, 6, 7, 8, 9}[:size]
				// Whose turn is next is one View ahead.
				if (view+1)%n == int64(id) {
					want = []int64{1, 2, 3, 4, 6, 7, 8, 9}[:[]int{2, 2, 5, 6, 7, 8}[at]]
				}
				if chain, _ := checkLedger(t, "passed over", r); !slices.Equal(viewsOf(chain), want) {
					t.Errorf("server %d of %d in View %d: %v, not %v", id, n, view, viewsOf(chain), want)
				}
			}
		}
	}
}

// ledgerArguments are those of all functions of the chapter.
type ledgerArguments struct {
	Replica impl.Replica
	Cluster impl.Cluster
}

func (x ledgerArguments) roomy() ledgerArguments {
	x.Replica = roomyReplica(x.Replica)
	x.Cluster = clusterArguments{Cluster: x.Cluster}.roomy().Cluster
	return x
}

func (x ledgerArguments) tight() ledgerArguments {
	x.Replica = tightReplica(x.Replica)
	x.Cluster = clusterArguments{Cluster: x.Cluster}.tight().Cluster
	return x
}

// ledgerAnswers are all functions of the chapter.
func ledgerAnswers() map[string]func(ledgerArguments) any {
	type answer struct {
		Bank  impl.Bank
		Codes []int64
	}
	return map[string]func(ledgerArguments) any{
		"Chain": func(x ledgerArguments) any { return impl.Chain(x.Replica) },
		"Ran": func(x ledgerArguments) any {
			b, codes := impl.Ran(x.Replica)
			return answer{b, codes}
		},
		"Agreed": func(x ledgerArguments) any { return impl.Agreed(x.Cluster) },
		"Apart":  func(x ledgerArguments) any { return impl.Apart(x.Cluster) },
	}
}

// ledgerCases goes through the functions, with Replicas and clusters that are right and not, that part, and that have one Name for two.
func ledgerCases(with func(name string, x ledgerArguments, answer func(ledgerArguments) any)) {
	source := rand.New(rand.NewSource(94))
	answers := ledgerAnswers()
	all := func(name string, r impl.Replica, c impl.Cluster) {
		for what, answer := range answers {
			with(name+": "+what, ledgerArguments{r, c}, answer)
		}
	}
	for _, n := range someServers {
		for name, r := range rightReplicas(n) {
			all(fmt.Sprint("right of ", n, ": ", name), r, clusterOf(slices.Repeat([]impl.Replica{r}, int(n))...))
		}
		for name, r := range wrongReplicas(n) {
			if source.Intn(8) == 0 {
				all(fmt.Sprint("wrong of ", n, ": ", name), r, withOne(someCluster(n), 0, r))
			}
		}
		for name, c := range rightClusters(n) {
			if source.Intn(8) == 0 {
				all(fmt.Sprint("right cluster of ", n, ": ", name), c.Replicas[0], c)
			}
		}
		for name, c := range wrongClusters(n) {
			if source.Intn(60) == 0 {
				all(fmt.Sprint("wrong cluster of ", n, ": ", name), newOf(0, n), c)
			}
		}
		for name, pair := range unlikePairs(n) {
			a, b := doneOf(n, pair[0], pair[0]...), doneOf(n, pair[1], pair[1]...)
			if n > 1 {
				all(fmt.Sprint("one Name, of ", n, ": ", name), a, withTwo(newCluster(n), 0, a, 1, b))
			}
		}
		for name, form := range ranForms() {
			r := lineWith(n, form.moves...)
			all(fmt.Sprint("run of ", n, ": ", name), r, withOne(newCluster(n), 0, r))
		}
		c := anyCluster(source, n)
		all(fmt.Sprint("any of ", n), anyReplica(source, n), c)
	}
	for name, c := range sizedClusters() {
		all(name, lineWith(4, repeated("3 3 1 0", 10), repeated("x", 10)), c)
	}
}

func TestLedgersLeaveTheirArguments(t *testing.T) {
	ledgerCases(func(name string, x ledgerArguments, answer func(ledgerArguments) any) {
		wantLeft(t, name, x, answer)
	})
}

func TestLedgersGiveNewMemory(t *testing.T) {
	ledgerCases(func(name string, x ledgerArguments, answer func(ledgerArguments) any) {
		wantNewMemory(t, name, x, answer)
	})
}

// What is written into an answer is in no other list of it, nor in what was given, nor in what is answered later.
func TestLedgersApartFromTheirAnswers(t *testing.T) {
	r := lineWith(7, []string{"0 7 10 0", "x"}, []string{"0 7 10 1"}, []string{"0 7 10 2", "y"})
	before, want := replicaClone(r), chainByRule(replicaClone(r))
	got := impl.Chain(r)
	for i, b := range got {
		spoil(b.Moves, "spoilt")
		spoil(b.Proof.By, -7)
		spoil(b.Proof.Tags, -7)
		if !slices.EqualFunc(got[i+1:], want[i+1:], sameBlock) {
			t.Fatalf("Block %d lies in what else is answered: %s", i, shortly(got))
		}
	}
	spoil(got, impl.Block{})
	wantBank, wantCodes := ranByRule(before)
	b, codes := impl.Ran(r)
	spoil(b.Money, -7)
	if again, _ := impl.Ran(r); !slices.Equal(b.Counts, wantBank.Counts) || !slices.Equal(codes, wantCodes) || !sameBank(again, wantBank) {
		t.Errorf("%v, %v and %v", b, codes, again)
	}
	spoil(b.Counts, -7)
	spoil(codes, -7)
	if again, codes := impl.Ran(r); !sameReplica(r, before) || !slices.EqualFunc(impl.Chain(r), want, sameBlock) || !sameBank(again, wantBank) || !slices.Equal(codes, wantCodes) {
		t.Error("an answer that was changed is answered again, or an argument was changed")
	}
}

// What is behind a list is no part of it, be it what would be Done, what would part, or what has the same Name.
func TestLedgersKeepOutOfTheSpareRoom(t *testing.T) {
	for _, n := range someServers {
		line := chainOf(n, 1, 2, 3, 4)
		r := doneOf(n, line, line...)
		r.Done = append(r.Done, -1)[:2]
		wantChain(t, "Done in the room", r, line[:2]...)
		wantRan(t, "Done in the room", r, bankAtFirst(), 1, 1)
		r = doneOf(n, line[:2], line[:3]...)
		if got := impl.Chain(r); len(got) > 0 || impl.ReplicaOk(r) {
			t.Errorf("of %d, a Block in the room: %s", n, shortly(got))
		}
		if n == 1 {
			continue
		}
		a, b := twoLines(n, 2, 2, 2)
		one, other := doneOf(n, a, a...), doneOf(n, b, b...)
		one.Done = one.Done[:2]
		one.Id, other.Id = 0, 1
		c := newCluster(n)
		c.Replicas[0], c.Replicas[1] = one, other
		wantLedgers(t, "what parts is in the room", c, true, true)
		pair := twins(n)[1]
		c = newCluster(n)
		c.Replicas[0].Blocks = append(manyBlocks(n, 1, 2), pair[0])[:2]
		c.Replicas[1].Blocks = pair[1:]
		wantLedgers(t, "one of one Name is in the room", c, true, true)
		c.Replicas[0].Blocks = c.Replicas[0].Blocks[:3]
		wantLedgers(t, "one of one Name is in no room", c, true, false)
	}
}
