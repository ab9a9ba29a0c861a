package tests

import (
	"fmt"
	"math/rand"
	"slices"
	"testing"

	"loop.example/g00217/impl"
)

// The numbers of the document, written out again.
const mostBlocks = 60
const mostVotes = 60
const mostNews = 30

func replicaClone(r impl.Replica) impl.Replica {
	r.High, r.Votes, r.News, r.Done = proofClone(r.High), slices.Clone(r.Votes), slices.Clone(r.News), slices.Clone(r.Done)
	r.Blocks = slices.Clone(r.Blocks)
	for i, b := range r.Blocks {
		r.Blocks[i] = blockClone(b)
	}
	return r
}

// replicaAs has changed copies of what may be changed.
func replicaAs(r impl.Replica, changes ...func(*impl.Replica)) impl.Replica {
	r = replicaClone(r)
	for _, change := range changes {
		change(&r)
	}
	return r
}

// sameReplica and sameMessage take an empty list and nil for the same.
func sameReplica(a impl.Replica, b impl.Replica) bool {
	if a.Id != b.Id || a.N != b.N || a.View != b.View || a.Voted != b.Voted || a.Locked != b.Locked || a.Proposed != b.Proposed {
		return false
	}
	if !sameProof(a.High, b.High) || !slices.EqualFunc(a.Blocks, b.Blocks, sameBlock) {
		return false
	}
	return slices.Equal(a.Votes, b.Votes) && slices.Equal(a.News, b.News) && slices.Equal(a.Done, b.Done)
}

func sameMessage(a impl.Message, b impl.Message) bool {
	if a.Kind != b.Kind || a.From != b.From || a.To != b.To || a.View != b.View || a.Vote != b.Vote {
		return false
	}
	return sameBlock(a.Block, b.Block) && sameProof(a.Proof, b.Proof)
}

func sameMessages(a []impl.Message, b []impl.Message) bool {
	return slices.EqualFunc(a, b, sameMessage)
}

func namesOf(blocks []impl.Block) []int64 {
	names := []int64{}
	for _, b := range blocks {
		names = append(names, impl.Name(b))
	}
	return names
}

// proofFor is by the first servers that are a quorum, proofForBy by these.
func proofFor(b impl.Block, n int64) impl.Proof {
	return proofForBy(b, serversTo(n)[:quorumByRule(n)]...)
}

func proofForBy(b impl.Block, servers ...int64) impl.Proof {
	return proofOf(b.View, impl.Name(b), servers...)
}

func voteFor(b impl.Block, server int64) impl.Vote {
	return voteOf(server, b.View, impl.Name(b))
}

// chainOn has Blocks of these Views, each on a Proof of the one ahead, and the first one on this one.
func chainOn(p impl.Proof, n int64, views ...int64) []impl.Block {
	list := []impl.Block{}
	for _, view := range views {
		b := blockOn(p, view, n, fmt.Sprint("m", view))
		list = append(list, b)
		p = proofFor(b, n)
	}
	return list
}

func chainOf(n int64, views ...int64) []impl.Block {
	return chainOn(impl.Proof{}, n, views...)
}

// manyBlocks are on the first Proof, all of one View, and unlike.
func manyBlocks(n int64, view int64, count int) []impl.Block {
	list := []impl.Block{}
	for i := range count {
		list = append(list, blockOn(impl.Proof{}, view, n, fmt.Sprint("many ", i)))
	}
	return list
}

// twins are two Blocks of one Name, of Views 1 and 2, and two of View 1.
func twins(n int64) [][]impl.Block {
	texts := map[int64][4]string{
		1: {"ziybec", "yphjva", "wzytxb", "mibbis"},
		4: {"kgomvs", "cwbxis", "gqtyqm", "whjahw"},
		7: {"pfskzv", "hvfvmv", "dnsyvk", "teiamu"},
	}[n]
	first := impl.Proof{}
	return [][]impl.Block{
		{blockOn(first, 1, n, texts[0]), blockOn(first, 2, n, texts[1])},
		{blockOn(first, 1, n, texts[2]), blockOn(first, 1, n, texts[3])},
	}
}

// shortly is enough of an answer to see what it is.
func shortly(answer any) string {
	return fmt.Sprintf("%.700s", asText(answer))
}

func newOf(id int64, n int64) impl.Replica {
	return impl.Replica{Id: id, N: n, View: 1}
}

// withBlocks knows these, and has done nothing.
func withBlocks(id int64, n int64, blocks ...impl.Block) impl.Replica {
	return impl.Replica{Id: id, N: n, View: 1, Blocks: blocks}
}

// newsFor are of one View, and of the first servers.
func newsFor(view int64, count int64) []impl.News {
	list := []impl.News{}
	for from := range count {
		list = append(list, impl.News{View: view, From: from})
	}
	return list
}

func manyNews(count int) []impl.News {
	list := []impl.News{}
	for i := range int64(count) {
		list = append(list, impl.News{View: i + 1, From: 0})
	}
	return list
}

// manyVotes are right, and for nothing that is there.
func manyVotes(count int) []impl.Vote {
	list := []impl.Vote{}
	for i := range int64(count) {
		list = append(list, voteOf(0, i+1, i))
	}
	return list
}

func proposal(from int64, to int64, b impl.Block) impl.Message {
	return impl.Message{Kind: impl.MsPropose, From: from, To: to, Block: b}
}

func ballotTo(to int64, v impl.Vote) impl.Message {
	return impl.Message{Kind: impl.MsVote, From: v.By, To: to, Vote: v}
}

func newsTo(from int64, to int64, view int64, p impl.Proof) impl.Message {
	return impl.Message{Kind: impl.MsNew, From: from, To: to, View: view, Proof: p}
}

// The chapter by its words: each looks through all Blocks anew.

func placeOf(blocks []impl.Block, view int64, name int64) int {
	return slices.IndexFunc(blocks, func(b impl.Block) bool { return b.View == view && impl.Name(b) == name })
}

// isOfThese tells whether a Proof, right or not, is the first one or of one of these Blocks.
func isOfThese(p impl.Proof, blocks []impl.Block) bool {
	return sameProof(p, impl.Proof{}) || placeOf(blocks, p.View, p.Name) >= 0
}

func chainsByRule(done []int64, blocks []impl.Block) bool {
	names := namesOf(blocks)
	for i, name := range done {
		at := slices.Index(names, name)
		if at < 0 || i == 0 && blocks[at].Parent != 0 || i > 0 && blocks[at].Parent != done[i-1] {
			return false
		}
	}
	return true
}

func replicaByRule(r impl.Replica) bool {
	if quorumByRule(r.N) < 0 || !inRange(r.Id, 0, r.N-1) || !inRange(r.View, 1, mostView) {
		return false
	}
	if !inRange(r.Voted, 0, mostView) || !inRange(r.Locked, 0, mostView) || !inRange(r.Proposed, 0, mostView) {
		return false
	}
	if len(r.Blocks) > mostBlocks || len(r.Votes) > mostVotes || len(r.News) > mostNews {
		return false
	}
	names := namesOf(r.Blocks)
	for i, b := range r.Blocks {
		if !impl.BlockOk(b, r.N) || slices.Contains(names[:i], names[i]) || !isOfThese(b.Proof, r.Blocks[:i]) {
			return false
		}
	}
	for _, v := range r.Votes {
		if !impl.VoteOk(v, r.N) {
			return false
		}
	}
	for _, x := range r.News {
		if !inRange(x.View, 1, mostView) || !inRange(x.From, 0, r.N-1) {
			return false
		}
	}
	return impl.ProofOk(r.High, r.N) && isOfThese(r.High, r.Blocks) && chainsByRule(r.Done, r.Blocks)
}

// words is a Replica that is changed in place, and what goes to others.
type words struct {
	impl.Replica
	sent []impl.Message
}

func wordsOf(r impl.Replica) *words {
	return &words{Replica: replicaClone(r)}
}

// lineTo are the Blocks from one with Parent 0 on up to the one at this place.
func (x *words) lineTo(at int) []impl.Block {
	b := x.Blocks[at]
	if b.Parent == 0 {
		return []impl.Block{b}
	}
	return append(x.lineTo(placeOf(x.Blocks, b.Proof.View, b.Parent)), b)
}

func (x *words) proof(p impl.Proof) {
	if !impl.ProofOk(p, x.N) || !isOfThese(p, x.Blocks) {
		return
	}
	if p.View > x.High.View {
		x.High = proofClone(p)
	}
	if x.View <= p.View {
		x.View = min(p.View+1, mostView)
	}
	at := placeOf(x.Blocks, p.View, p.Name)
	if at < 0 {
		return
	}
	if x.Locked < x.Blocks[at].Proof.View {
		x.Locked = x.Blocks[at].Proof.View
	}
	line := x.lineTo(at)
	size := len(line) - 2
	if size < 1 || line[size-1].View+1 != line[size].View || line[size].View+1 != line[size+1].View {
		return
	}
	names := namesOf(line[:size])
	if len(names) > len(x.Done) && slices.Equal(names[:len(x.Done)], x.Done) {
		x.Done = names
	}
}

func (x *words) block(b impl.Block) {
	if !impl.BlockOk(b, x.N) || !isOfThese(b.Proof, x.Blocks) || slices.Contains(namesOf(x.Blocks), impl.Name(b)) || len(x.Blocks) >= mostBlocks {
		return
	}
	x.Blocks = append(x.Blocks, blockClone(b))
	x.proof(b.Proof)
	if x.View < b.View {
		x.View = b.View
	}
	if b.View <= x.Voted || b.Proof.View < x.Locked {
		return
	}
	x.Voted = b.View
	v, to := voteFor(b, x.Id), (b.View+1)%x.N
	if to == x.Id {
		x.vote(v)
	} else {
		x.sent = append(x.sent, ballotTo(to, v))
	}
}

func (x *words) vote(v impl.Vote) {
	if !impl.VoteOk(v, x.N) || placeOf(x.Blocks, v.View, v.Name) < 0 || (v.View+1)%x.N != x.Id || slices.Contains(x.Votes, v) || len(x.Votes) >= mostVotes {
		return
	}
	x.Votes = append(x.Votes, v)
	servers := []int64{}
	for _, server := range serversTo(x.N) {
		if slices.Contains(x.Votes, voteOf(server, v.View, v.Name)) {
			servers = append(servers, server)
		}
	}
	if int64(len(servers)) >= quorumByRule(x.N) {
		x.proof(proofOf(v.View, v.Name, servers...))
	}
}

func (x *words) news(view int64, from int64) {
	if !inRange(view, 1, mostView) || view%x.N != x.Id || !inRange(from, 0, x.N-1) || len(x.News) >= mostNews {
		return
	}
	for _, other := range x.News {
		if other.View == view && other.From == from {
			return
		}
	}
	x.News = append(x.News, impl.News{View: view, From: from})
}

func proposeByRule(r impl.Replica, moves []string) (impl.Replica, []impl.Message, bool) {
	if !replicaByRule(r) {
		return impl.Replica{}, nil, false
	}
	x, servers := wordsOf(r), []int64{}
	for _, server := range serversTo(r.N) {
		if slices.Contains(r.News, impl.News{View: r.View, From: server}) {
			servers = append(servers, server)
		}
	}
	isDue := r.View%r.N == r.Id && r.Proposed < r.View && (r.High.View == r.View-1 || int64(len(servers)) >= quorumByRule(r.N))
	b := impl.Block{View: r.View, Parent: r.High.Name, Proof: r.High, Moves: moves, By: r.Id}
	if !isDue || !impl.BlockOk(b, r.N) {
		return x.Replica, nil, false
	}
	x.Proposed = r.View
	for _, to := range serversTo(r.N) {
		if to != r.Id {
			x.sent = append(x.sent, proposal(r.Id, to, blockClone(b)))
		}
	}
	x.block(b)
	return x.Replica, x.sent, true
}

func hearByRule(r impl.Replica, m impl.Message) (impl.Replica, []impl.Message) {
	if !replicaByRule(r) {
		return impl.Replica{}, nil
	}
	x := wordsOf(r)
	if m.To == r.Id && m.From != r.Id && inRange(m.From, 0, r.N-1) {
		switch m.Kind {
		case 1:
			x.block(m.Block)
		case 2:
			x.vote(m.Vote)
		case 3:
			x.proof(m.Proof)
			x.news(m.View, m.From)
		}
	}
	return x.Replica, x.sent
}

func timeoutByRule(r impl.Replica) (impl.Replica, []impl.Message) {
	if !replicaByRule(r) {
		return impl.Replica{}, nil
	}
	x := wordsOf(r)
	if r.View == mostView {
		return x.Replica, nil
	}
	x.View++
	view, to := x.View, x.View%r.N
	if to == r.Id {
		x.proof(proofClone(r.High))
		x.news(view, r.Id)
		return x.Replica, nil
	}
	return x.Replica, []impl.Message{newsTo(r.Id, to, view, proofClone(r.High))}
}

func restartByRule(r impl.Replica) impl.Replica {
	if !replicaByRule(r) {
		return impl.Replica{}
	}
	return replicaAs(r, func(r *impl.Replica) { r.Votes, r.News = nil, nil })
}

// wantGrown is promise 16, of a right Replica and of what became of it.
func wantGrown(t *testing.T, name string, r impl.Replica, got impl.Replica) {
	t.Helper()
	if !impl.ReplicaOk(got) {
		t.Fatalf("%s: %s became %s, which is not right", name, shortly(r), shortly(got))
	}
	if got.Id != r.Id || got.N != r.N {
		t.Fatalf("%s: another server: %s became %s", name, shortly(r), shortly(got))
	}
	if got.View < r.View || got.Voted < r.Voted || got.Locked < r.Locked || got.Proposed < r.Proposed || got.High.View < r.High.View {
		t.Fatalf("%s: something fell: %s became %s", name, shortly(r), shortly(got))
	}
	if len(got.Done) < len(r.Done) || !slices.Equal(got.Done[:len(r.Done)], r.Done) {
		t.Fatalf("%s: Done %v became %v", name, r.Done, got.Done)
	}
	if len(got.Blocks) < len(r.Blocks) || !slices.EqualFunc(got.Blocks[:len(r.Blocks)], r.Blocks, sameBlock) {
		t.Fatalf("%s: Blocks went: %s became %s", name, shortly(r), shortly(got))
	}
}

// wantSent asks that what goes to others is right, and goes where it is waited for.
func wantSent(t *testing.T, name string, r impl.Replica, sent []impl.Message) {
	t.Helper()
	for _, m := range sent {
		isRight := m.From == r.Id && m.To != r.Id && inRange(m.To, 0, r.N-1)
		switch m.Kind {
		case impl.MsPropose:
			isRight = isRight && impl.BlockOk(m.Block, r.N) && m.Block.By == r.Id
			m.Block = impl.Block{}
		case impl.MsVote:
			isRight = isRight && impl.VoteOk(m.Vote, r.N) && m.Vote.By == r.Id && m.To == (m.Vote.View+1)%r.N && m.Vote.View > r.Voted
			m.Vote = impl.Vote{}
		case impl.MsNew:
			isRight = isRight && impl.ProofOk(m.Proof, r.N) && m.To == m.View%r.N && m.View == r.View+1
			m.View, m.Proof = 0, impl.Proof{}
		default:
			isRight = false
		}
		if !isRight || !sameMessage(m, impl.Message{Kind: m.Kind, From: m.From, To: m.To}) {
			t.Fatalf("%s: sent %s", name, shortly(m))
		}
	}
}

// checkAnswer holds an answer against the words, and against promise 16 where the Replica was right.
func checkAnswer(t *testing.T, name string, asked any, r impl.Replica, got impl.Replica, sent []impl.Message, want impl.Replica, wantSentTo []impl.Message) {
	t.Helper()
	if !sameReplica(got, want) || !sameMessages(sent, wantSentTo) {
		t.Fatalf("%s of %s: %s: %s and %s, not %s and %s", name, shortly(asked), shortly(r), shortly(got), shortly(sent), shortly(want), shortly(wantSentTo))
	}
	// The zero Replica has no servers: it answers one that is not right.
	if want.N > 0 {
		wantGrown(t, name, r, got)
		wantSent(t, name, r, sent)
	}
}

func checkPropose(t *testing.T, r impl.Replica, moves []string) (impl.Replica, []impl.Message, bool) {
	t.Helper()
	want, wantTo, wantIs := proposeByRule(r, moves)
	got, sent, is := impl.Propose(r, moves)
	if is != wantIs {
		t.Fatalf("Propose of %s: %v", shortly(r), is)
	}
	checkAnswer(t, "Propose", moves, r, got, sent, want, wantTo)
	return got, sent, is
}

func checkHear(t *testing.T, r impl.Replica, m impl.Message) (impl.Replica, []impl.Message) {
	t.Helper()
	want, wantTo := hearByRule(r, m)
	got, sent := impl.Hear(r, m)
	checkAnswer(t, "Hear", m, r, got, sent, want, wantTo)
	return got, sent
}

func checkTimeout(t *testing.T, r impl.Replica) (impl.Replica, []impl.Message) {
	t.Helper()
	want, wantTo := timeoutByRule(r)
	got, sent := impl.Timeout(r)
	checkAnswer(t, "Timeout", nil, r, got, sent, want, wantTo)
	return got, sent
}

func checkRestart(t *testing.T, r impl.Replica) impl.Replica {
	t.Helper()
	got := impl.Restart(r)
	checkAnswer(t, "Restart", nil, r, got, nil, restartByRule(r), nil)
	return got
}

func TestConstantsOfReplicas(t *testing.T) {
	if impl.MaxBlocks != mostBlocks || impl.MsPropose != 1 || impl.MsVote != 2 || impl.MsNew != 3 {
		t.Fatal(impl.MaxBlocks, impl.MsPropose, impl.MsVote, impl.MsNew)
	}
}

func TestNewReplica(t *testing.T) {
	right := 0
	for _, n := range append(noServers, someServers...) {
		for _, id := range append(farNumbers, -8, -7, -4, -2, -1, 0, 1, 2, 3, 4, 5, 6, 7, 8, n, n-1, n+1) {
			got, is := impl.NewReplica(id, n)
			want := impl.Replica{}
			if isServer := quorumByRule(n) > 0 && inRange(id, 0, n-1); isServer {
				want = impl.Replica{Id: id, N: n, View: 1}
			}
			if is != (want.N > 0) || !sameReplica(got, want) || is != impl.ReplicaOk(got) {
				t.Fatalf("%d of %d: %+v and %v", id, n, got, is)
			}
			if is {
				right++
			}
		}
	}
	// Of each n the last id is there twice.
	if right != 1+4+7+3 {
		t.Fatal(right)
	}
}

// someReplica has something in each field: a chain of five Blocks and one that parts from it, of which two are Done.
func someReplica(n int64) impl.Replica {
	blocks := chainOf(n, 1, 2, 3, 4, 6)
	blocks = append(blocks, blockOn(proofFor(blocks[1], n), 5, n, "parts"))
	return impl.Replica{
		Id:       n - 1,
		N:        n,
		View:     7,
		Voted:    6,
		Locked:   2,
		Proposed: 5,
		High:     proofFor(blocks[3], n),
		Blocks:   blocks,
		Votes:    []impl.Vote{voteFor(blocks[4], 0), voteFor(blocks[4], n-1), voteOf(0, 9, 9)},
		News:     []impl.News{{View: 7, From: 0}, {View: 5, From: n - 1}, {View: 8, From: 0}},
		Done:     namesOf(blocks[:2]),
	}
}

// rightReplicas are those of n servers.
func rightReplicas(n int64) map[string]impl.Replica {
	some, all := someReplica(n), serversTo(n)
	with := func(change func(*impl.Replica)) impl.Replica { return replicaAs(some, change) }
	blocks := some.Blocks
	replicas := map[string]impl.Replica{
		"some":                            some,
		"of empty lists":                  {N: n, View: 1, High: rightProofs(n)["the first one, of empty lists"], Blocks: []impl.Block{}, Votes: []impl.Vote{}, News: []impl.News{}, Done: []int64{}},
		"View MaxView":                    with(func(r *impl.Replica) { r.View = mostView }),
		"View MaxView - 1":                with(func(r *impl.Replica) { r.View = mostView - 1 }),
		"View 1, though much was heard":   with(func(r *impl.Replica) { r.View = 1 }),
		"nothing voted":                   with(func(r *impl.Replica) { r.Voted, r.Locked, r.Proposed = 0, 0, 0 }),
		"all is MaxView":                  with(func(r *impl.Replica) { r.View, r.Voted, r.Locked, r.Proposed = mostView, mostView, mostView, mostView }),
		"High is the first one":           with(func(r *impl.Replica) { r.High = impl.Proof{} }),
		"High by all":                     with(func(r *impl.Replica) { r.High = proofForBy(blocks[3], all...) }),
		"High by the last ones":           with(func(r *impl.Replica) { r.High = proofForBy(blocks[3], all[n-quorumByRule(n):]...) }),
		"Done is nothing":                 with(func(r *impl.Replica) { r.Done = nil }),
		"Done is one":                     with(func(r *impl.Replica) { r.Done = namesOf(blocks[:1]) }),
		"Done is all of the chain":        with(func(r *impl.Replica) { r.Done = namesOf(blocks[:5]) }),
		"Done is what parts":              with(func(r *impl.Replica) { r.Done = append(namesOf(blocks[:2]), impl.Name(blocks[5])) }),
		"no Votes":                        with(func(r *impl.Replica) { r.Votes = nil }),
		"no News":                         with(func(r *impl.Replica) { r.News = nil }),
		"nothing but Votes and News":      with(func(r *impl.Replica) { r.Blocks, r.High, r.Done = nil, impl.Proof{}, nil }),
		"59 Votes":                        with(func(r *impl.Replica) { r.Votes = manyVotes(59) }),
		"60 Votes":                        with(func(r *impl.Replica) { r.Votes = manyVotes(60) }),
		"one Vote 60 times":               with(func(r *impl.Replica) { r.Votes = slices.Repeat([]impl.Vote{voteOf(0, 9, 9)}, 60) }),
		"29 News":                         with(func(r *impl.Replica) { r.News = manyNews(29) }),
		"30 News":                         with(func(r *impl.Replica) { r.News = manyNews(30) }),
		"the same News 30 times":          with(func(r *impl.Replica) { r.News = slices.Repeat(newsFor(3, 1), 30) }),
		"News of each server":             with(func(r *impl.Replica) { r.News = newsFor(3, n) }),
		"News of View 1 and MaxView":      with(func(r *impl.Replica) { r.News = append(newsFor(1, n), newsFor(mostView, n)...) }),
		"59 Blocks, of one View":          withBlocks(0, n, manyBlocks(n, 1, 59)...),
		"60 Blocks, of one View":          withBlocks(0, n, manyBlocks(n, 1, 60)...),
		"60 Blocks, of View MaxView":      withBlocks(0, n, manyBlocks(n, mostView, 60)...),
		"60 Blocks in a chain":            withBlocks(0, n, chainOf(n, rising(1, 60)...)...),
		"a chain up to MaxView":           withBlocks(0, n, chainOf(n, 1, 500, mostView-1, mostView)...),
		"the Parent is Block by Block":    withBlocks(0, n, slices.Insert(chainOf(n, 1, 2, 3), 1, manyBlocks(n, 4, 5)...)...),
		"many on one":                     withBlocks(0, n, append(chainOf(n, 3, 4), blockOn(proofFor(chainOf(n, 3)[0], n), 4, n), blockOn(proofForBy(chainOf(n, 3)[0], all...), 4, n, "by all"))...),
		"one of a pair with one Name":     withBlocks(0, n, twins(n)[0][0]),
		"the other of a pair":             withBlocks(0, n, twins(n)[0][1]),
		"Votes for whom there is no turn": with(func(r *impl.Replica) { r.Votes = votesOf(mostView, mostName, all...) }),
	}
	for _, id := range all {
		replicas[fmt.Sprint("new, server ", id)] = newOf(id, n)
		replicas[fmt.Sprint("some, server ", id)] = with(func(r *impl.Replica) { r.Id = id })
	}
	for _, at := range []int{0, 1, 2, 3, 4, 5} {
		replicas[fmt.Sprint("High of Block ", at)] = with(func(r *impl.Replica) { r.High = proofFor(blocks[at], n) })
	}
	for _, view := range []int64{0, 1, mostView - 1, mostView} {
		replicas[fmt.Sprint("Voted ", view)] = with(func(r *impl.Replica) { r.Voted = view })
		replicas[fmt.Sprint("Locked ", view)] = with(func(r *impl.Replica) { r.Locked = view })
		replicas[fmt.Sprint("Proposed ", view)] = with(func(r *impl.Replica) { r.Proposed = view })
	}
	for i, b := range noughtBlocks() {
		if n > 1 {
			long := append([]impl.Block{b}, chainOn(proofFor(b, n), n, 2, 3)...)
			replicas[fmt.Sprint("a chain on a Digest of 0, ", i)] = impl.Replica{N: n, View: 1, High: proofFor(long[2], n), Blocks: long, Done: namesOf(long)}
		}
	}
	return replicas
}

// numbersOfReplica has the name of each number that has to be in a range, the ends of that, and where it is.
func numbersOfReplica(n int64) map[string]struct {
	from, to int64
	at       func(*impl.Replica) *int64
} {
	type number = struct {
		from, to int64
		at       func(*impl.Replica) *int64
	}
	return map[string]number{
		"Id":          {0, n - 1, func(r *impl.Replica) *int64 { return &r.Id }},
		"View":        {1, mostView, func(r *impl.Replica) *int64 { return &r.View }},
		"Voted":       {0, mostView, func(r *impl.Replica) *int64 { return &r.Voted }},
		"Locked":      {0, mostView, func(r *impl.Replica) *int64 { return &r.Locked }},
		"Proposed":    {0, mostView, func(r *impl.Replica) *int64 { return &r.Proposed }},
		"first View":  {1, mostView, func(r *impl.Replica) *int64 { return &r.News[0].View }},
		"first From":  {0, n - 1, func(r *impl.Replica) *int64 { return &r.News[0].From }},
		"second View": {1, mostView, func(r *impl.Replica) *int64 { return &r.News[1].View }},
		"second From": {0, n - 1, func(r *impl.Replica) *int64 { return &r.News[1].From }},
		"last View":   {1, mostView, func(r *impl.Replica) *int64 { return &r.News[2].View }},
		"last From":   {0, n - 1, func(r *impl.Replica) *int64 { return &r.News[2].From }},
	}
}

// wrongReplicas fail in one way each, as far as may be.
func wrongReplicas(n int64) map[string]impl.Replica {
	some, all := someReplica(n), serversTo(n)
	with := func(change func(*impl.Replica)) impl.Replica { return replicaAs(some, change) }
	of := func(blocks ...impl.Block) impl.Replica { return withBlocks(0, n, blocks...) }
	blocks, name := some.Blocks, impl.Name(some.Blocks[3])
	replicas := map[string]impl.Replica{
		"zero":                                  {},
		"no View":                               {N: n},
		"61 Blocks":                             of(manyBlocks(n, 1, 61)...),
		"61 Blocks in a chain":                  of(chainOf(n, rising(1, 61)...)...),
		"100 Blocks":                            of(manyBlocks(n, 1, 100)...),
		"the zero Block":                        of(impl.Block{}),
		"a Block behind its child":              of(blocks[1], blocks[0]),
		"a Block without its Parent":            of(blocks[1]),
		"a Block without its Parent, behind":    of(blocks[0], blocks[2]),
		"the Parent is the Block behind":        of(blocks[0], blocks[2], blocks[1]),
		"one Block twice":                       of(blocks[0], blocks[0]),
		"one Block twice, not in a row":         of(blocks[0], blocks[1], blocks[2], blocks[1]),
		"two of one Name, of two Views":         of(twins(n)[0][:]...),
		"two of one Name, of one View":          of(twins(n)[1][:]...),
		"two of one Name, the other way round":  of(twins(n)[0][1], twins(n)[0][0]),
		"two of one Name, with some between":    of(append(append(slices.Clone(twins(n)[0][:1]), manyBlocks(n, 1, 5)...), twins(n)[0][1])...),
		"a Proof of another View of its Parent": of(blocks[0], blockOn(proofOf(2, impl.Name(blocks[0]), all...), 3, n)),
		"a Proof of a View below its Parent's":  of(chainOf(n, 5)[0], blockOn(proofOf(4, impl.Name(chainOf(n, 5)[0]), all...), 6, n)),
		"Parent 0, a Proof of Name 0":           of(blockOn(proofOf(1, 0, all...), 2, n)),
		"Parent 0 and a Proof, behind another":  of(blocks[0], blockOn(proofOf(1, 0, all...), 2, n)),
		"a Parent that nobody has":              of(blocks[0], blockOn(proofOf(1, impl.Name(blocks[0])+1, all...), 2, n)),
		"a Block of its own Name as Parent":     of(blockOn(proofOf(1, 1, all...), 2, n)),
		"61 Votes":                              with(func(r *impl.Replica) { r.Votes = manyVotes(61) }),
		"one Vote 61 times":                     with(func(r *impl.Replica) { r.Votes = slices.Repeat([]impl.Vote{voteOf(0, 9, 9)}, 61) }),
		"31 News":                               with(func(r *impl.Replica) { r.News = manyNews(31) }),
		"the same News 31 times":                with(func(r *impl.Replica) { r.News = slices.Repeat(newsFor(3, 1), 31) }),
		"News of nobody, at the end":            with(func(r *impl.Replica) { r.News = append(manyNews(29), impl.News{View: 1, From: n}) }),
		"the zero News":                         with(func(r *impl.Replica) { r.News = []impl.News{{}} }),
		"High of the Name and View 0":           with(func(r *impl.Replica) { r.High = proofOf(0, name, all...) }),
		"High of the Name and a View more":      with(func(r *impl.Replica) { r.High = proofOf(5, name, all...) }),
		"High of the Name and a View less":      with(func(r *impl.Replica) { r.High = proofOf(3, name, all...) }),
		"High of a Name more":                   with(func(r *impl.Replica) { r.High = proofOf(4, name+1, all...) }),
		"High of a Name less":                   with(func(r *impl.Replica) { r.High = proofOf(4, name-1, all...) }),
		"High of Name 0":                        with(func(r *impl.Replica) { r.High = proofOf(4, 0, all...) }),
		"High of one's Name, another's View":    with(func(r *impl.Replica) { r.High = proofOf(4, impl.Name(blocks[2]), all...) }),
		"High, and no Block":                    with(func(r *impl.Replica) { r.Blocks, r.Done = nil, nil }),
		"High of Name 0 and View 1, no Block":   {N: n, View: 3, High: proofOf(1, 0, all...)},
		"High of nobody":                        with(func(r *impl.Replica) { r.High.By, r.High.Tags = nil, nil }),
		"Done without the first":                with(func(r *impl.Replica) { r.Done = namesOf(blocks[1:2]) }),
		"Done from the second on":               with(func(r *impl.Replica) { r.Done = namesOf(blocks[1:4]) }),
		"Done skips the second":                 with(func(r *impl.Replica) { r.Done = []int64{impl.Name(blocks[0]), impl.Name(blocks[2])} }),
		"Done skips the third":                  with(func(r *impl.Replica) { r.Done = append(namesOf(blocks[:2]), name) }),
		"Done is the first one twice":           with(func(r *impl.Replica) { r.Done = slices.Repeat(namesOf(blocks[:1]), 2) }),
		"Done has the last one twice":           with(func(r *impl.Replica) { r.Done = append(namesOf(blocks[:2]), impl.Name(blocks[1])) }),
		"Done goes the other way":               with(func(r *impl.Replica) { slices.Reverse(r.Done) }),
		"Done of two that part":                 with(func(r *impl.Replica) { r.Done = append(namesOf(blocks[:3]), impl.Name(blocks[5])) }),
		"Done has a Name of nobody":             with(func(r *impl.Replica) { r.Done = []int64{name + 1} }),
		"Done has a Name of nobody, behind":     with(func(r *impl.Replica) { r.Done = append(r.Done, impl.Name(blocks[2])+1) }),
		"Done has Name 0":                       with(func(r *impl.Replica) { r.Done = []int64{0} }),
		"Done has Name 0 ahead":                 with(func(r *impl.Replica) { r.Done = append([]int64{0}, r.Done...) }),
		"Done has Name 0 behind":                with(func(r *impl.Replica) { r.Done = append(r.Done, 0) }),
		"Done has Name -1":                      with(func(r *impl.Replica) { r.Done = []int64{-1} }),
		"Done, and no Block":                    {N: n, View: 1, Done: namesOf(blocks[:1])},
		"Done of two first ones":                replicaAs(of(manyBlocks(n, 1, 2)...), func(r *impl.Replica) { r.Done = namesOf(r.Blocks) }),
		"Done of 61":                            replicaAs(of(chainOf(n, rising(1, 60)...)...), func(r *impl.Replica) { r.Done = append(namesOf(r.Blocks), impl.Name(r.Blocks[0])) }),
	}
	for name, x := range numbersOfReplica(n) {
		for _, number := range append(farNumbers, x.from-1, x.from-2, x.to+1, x.to+2) {
			replicas[fmt.Sprint(name, " ", number)] = with(func(r *impl.Replica) { *x.at(r) = number })
		}
	}
	for _, other := range noServers {
		replicas[fmt.Sprint("of ", other, " servers")] = with(func(r *impl.Replica) { r.N = other })
		replicas[fmt.Sprint("new, of ", other, " servers")] = newOf(0, other)
	}
	for what, p := range wrongProofs(n) {
		replicas["High: "+what] = with(func(r *impl.Replica) { r.High = p })
	}
	for i, v := range wrongVotes(n) {
		votes := slices.Insert(manyVotes(3), i%4, v)
		replicas[fmt.Sprint("wrong Vote ", i)] = with(func(r *impl.Replica) { r.Votes = votes })
	}
	for what, b := range wrongViewBlocks(n) {
		wide := withBlocks(0, n, slices.Insert(chainOf(n, 1, 2, 3), 2, b)...)
		replicas["Block: "+what] = wide
	}
	for at := range blocks {
		for what, change := range bentBlocks(n) {
			// What is behind such a Block may be wrong too, since its Name is another one.
			replicas[fmt.Sprint("Block ", at, ": ", what)] = with(func(r *impl.Replica) { change(&r.Blocks[at]) })
			replicas[fmt.Sprint("last Block ", at, ": ", what)] = replicaAs(of(blocks[:at+1]...), func(r *impl.Replica) { change(&r.Blocks[at]) })
		}
		for _, by := range []int64{-1, 1} {
			replicas[fmt.Sprint("a Tag in the Proof of Block ", at, " with ", by)] = with(func(r *impl.Replica) {
				r.High = proofFor(blocks[at], n)
				r.High.Tags[0] += by
			})
		}
	}
	return replicas
}

// bentBlocks make a Block wrong that is right, whatever its View is.
func bentBlocks(n int64) map[string]func(*impl.Block) {
	return map[string]func(*impl.Block){
		"a View more":         func(b *impl.Block) { b.View++; b.By += n },
		"View 0":              func(b *impl.Block) { b.View, b.By = 0, 0 },
		"View MaxView + 1":    func(b *impl.Block) { b.View, b.By = mostView+1, (mostView+1)%n },
		"Parent one more":     func(b *impl.Block) { b.Parent++ },
		"Parent one less":     func(b *impl.Block) { b.Parent-- },
		"another View proved": func(b *impl.Block) { b.Proof.View++ },
		"another Name proved": func(b *impl.Block) { b.Proof.Name++ },
		"a Proof by one more": func(b *impl.Block) { b.Proof.By = append(b.Proof.By, n) },
		"By one more":         func(b *impl.Block) { b.By++ },
		"By one less":         func(b *impl.Block) { b.By-- },
		"eleven Moves":        func(b *impl.Block) { b.Moves = repeated("m", 11) },
		"a Move of 61 bytes":  func(b *impl.Block) { b.Moves = []string{sized(61)} },
	}
}

func TestReplicaOkOfRightReplicas(t *testing.T) {
	for _, n := range someServers {
		for name, r := range rightReplicas(n) {
			if !impl.ReplicaOk(r) || !replicaByRule(r) {
				t.Errorf("of %d, %s: not right: %s", n, name, shortly(r))
			}
		}
	}
}

func TestReplicaOkOfWrongReplicas(t *testing.T) {
	for _, n := range someServers {
		for name, r := range wrongReplicas(n) {
			if impl.ReplicaOk(r) || replicaByRule(r) {
				t.Errorf("of %d, %s: right: %s", n, name, shortly(r))
			}
		}
	}
}

// A Replica of some servers is that of other ones only where its servers and its Proofs would be theirs too.
func TestReplicaOkOfOtherServers(t *testing.T) {
	for _, n := range someServers {
		for name, r := range rightReplicas(n) {
			for _, other := range someServers {
				r := replicaAs(r, func(r *impl.Replica) { r.N = other })
				if got := impl.ReplicaOk(r); got != replicaByRule(r) {
					t.Errorf("of %d for %d, %s: %v", other, n, name, got)
				}
			}
		}
	}
	long := withBlocks(0, 7, chainOf(7, 28)...)
	if !impl.ReplicaOk(long) || !impl.ReplicaOk(replicaAs(long, func(r *impl.Replica) { r.N = 4 })) || !impl.ReplicaOk(replicaAs(long, func(r *impl.Replica) { r.N = 1 })) {
		t.Error("the turn of server 0 among 1, 4 and 7")
	}
}

// Each number at each end of its range and past it, with all else as it is.
func TestReplicaOkAtTheEnds(t *testing.T) {
	right, wrong := 0, 0
	for _, n := range someServers {
		for name, x := range numbersOfReplica(n) {
			for _, number := range append(farNumbers, x.from-1, x.from, x.from+1, x.to-1, x.to, x.to+1) {
				r := replicaAs(someReplica(n), func(r *impl.Replica) { *x.at(r) = number })
				want := inRange(number, x.from, x.to)
				if impl.ReplicaOk(r) != want || replicaByRule(r) != want {
					t.Errorf("of %d: %s %d", n, name, number)
				}
				if want {
					right++
				} else {
					wrong++
				}
			}
		}
	}
	if right < 100 || wrong < 200 {
		t.Fatal(right, wrong)
	}
}

// What is not right is the zero Replica after whatever is asked, and sends nothing.
func TestWrongReplicasAreAnsweredByNothing(t *testing.T) {
	zero := impl.Replica{}
	for _, n := range someServers {
		for name, r := range wrongReplicas(n) {
			b := chainOf(n, 1)[0]
			if got, sent, is := impl.Propose(r, []string{"m"}); is || !sameReplica(got, zero) || len(sent) > 0 {
				t.Errorf("of %d, %s: Propose: %s, %s and %v", n, name, shortly(got), shortly(sent), is)
			}
			for _, m := range []impl.Message{{}, proposal((r.Id+1)%n, r.Id, b), ballotTo(r.Id, voteFor(b, 0)), newsTo(0, r.Id, n+r.Id, impl.Proof{})} {
				if got, sent := impl.Hear(r, m); !sameReplica(got, zero) || len(sent) > 0 {
					t.Errorf("of %d, %s: Hear: %s and %s", n, name, shortly(got), shortly(sent))
				}
			}
			if got, sent := impl.Timeout(r); !sameReplica(got, zero) || len(sent) > 0 {
				t.Errorf("of %d, %s: Timeout: %s and %s", n, name, shortly(got), shortly(sent))
			}
			if got := impl.Restart(r); !sameReplica(got, zero) {
				t.Errorf("of %d, %s: Restart: %s", n, name, shortly(got))
			}
		}
	}
}

// wantHeard asks what becomes of a Replica by one message, and what goes to others.
func wantHeard(t *testing.T, name string, r impl.Replica, m impl.Message, want impl.Replica, wantTo ...impl.Message) {
	t.Helper()
	if !impl.ReplicaOk(r) || !impl.ReplicaOk(want) {
		t.Errorf("%s: not right: %v and %v", name, impl.ReplicaOk(r), impl.ReplicaOk(want))
	}
	got, sent := impl.Hear(r, m)
	if !sameReplica(got, want) || !sameMessages(sent, wantTo) {
		t.Errorf("%s: %s and %s, not %s and %s", name, shortly(got), shortly(sent), shortly(want), shortly(wantTo))
	}
}

func wantNoChange(t *testing.T, name string, r impl.Replica, m impl.Message) {
	t.Helper()
	wantHeard(t, name, r, m, r)
}

// Server 0 of four hears a chain, Block by Block; its Votes go to the one whose turn is next.
func TestHearOfAChain(t *testing.T) {
	for _, from := range []int64{1, 2, 3} {
		r := newOf(0, 4)
		b := chainOf(4, 1, 2, 3, 4, 5, 6)
		names := namesOf(b)
		for i, step := range []struct {
			change func(*impl.Replica)
			sent   []impl.Message
		}{
			{func(r *impl.Replica) {}, []impl.Message{ballotTo(2, voteFor(b[0], 0))}},
			{func(r *impl.Replica) {}, []impl.Message{ballotTo(3, voteFor(b[1], 0))}},
			{func(r *impl.Replica) { r.Locked, r.Votes = 1, []impl.Vote{voteFor(b[2], 0)} }, nil},
			{func(r *impl.Replica) { r.Locked, r.Done = 2, names[:1] }, []impl.Message{ballotTo(1, voteFor(b[3], 0))}},
			{func(r *impl.Replica) { r.Locked, r.Done = 3, names[:2] }, []impl.Message{ballotTo(2, voteFor(b[4], 0))}},
			{func(r *impl.Replica) { r.Locked, r.Done = 4, names[:3] }, []impl.Message{ballotTo(3, voteFor(b[5], 0))}},
		} {
			want := replicaAs(r, step.change, func(r *impl.Replica) {
				r.Blocks = append(r.Blocks, b[i])
				r.View, r.Voted, r.High = b[i].View, b[i].View, b[i].Proof
			})
			wantHeard(t, fmt.Sprint("Block ", i, " from ", from), r, proposal(from, 0, b[i]), want, step.sent...)
			r = want
		}
	}
}

func TestHearOfABlockToItself(t *testing.T) {
	for _, n := range []int64{4, 7} {
		for id := range n {
			for view := int64(1); view <= 2*n; view++ {
				b, v := chainOf(n, view)[0], voteFor(chainOf(n, view)[0], id)
				want := replicaAs(withBlocks(id, n, b), func(r *impl.Replica) { r.View, r.Voted = view, view })
				sent := []impl.Message{}
				if to := (view + 1) % n; to == id {
					want.Votes = []impl.Vote{v}
				} else {
					sent = append(sent, ballotTo(to, v))
				}
				wantHeard(t, fmt.Sprint("View ", view, " by ", id, " of ", n), newOf(id, n), proposal((id+1)%n, id, b), want, sent...)
			}
		}
	}
}

func TestHearOfABlockThatIsNotTaken(t *testing.T) {
	b := chainOf(4, 1, 2, 3)
	all := []int64{0, 1, 2, 3}
	r := replicaAs(withBlocks(0, 4, b[0]), func(r *impl.Replica) { r.View = 1 })
	for name, other := range map[string]impl.Block{
		"zero":                             {},
		"known already":                    b[0],
		"not known":                        b[2],
		"a Proof of another View":          blockOn(proofOf(2, impl.Name(b[0]), all...), 3, 4),
		"a Proof of another Name":          blockOn(proofOf(1, impl.Name(b[0])+1, all...), 2, 4),
		"Parent 0, a Proof of Name 0":      blockOn(proofOf(1, 0, all...), 2, 4),
		"not right: no Proof":              {View: 2, Parent: impl.Name(b[0]), By: 2},
		"not right: two of four":           blockOn(proofForBy(b[0], 0, 1), 2, 4),
		"not right: not its turn":          {View: 2, Parent: b[1].Parent, Proof: b[1].Proof, By: 1},
		"not right: eleven Moves":          blockOn(b[1].Proof, 2, 4, repeated("", 11)...),
		"not right: View 0":                blockOn(impl.Proof{}, 0, 4),
		"not right: past MaxView":          blockOn(b[1].Proof, mostView+1, 4),
		"not right: the View of its Proof": blockOn(b[1].Proof, 1, 4),
	} {
		wantNoChange(t, name, r, proposal(1, 0, other))
	}
	for what, other := range wrongViewBlocks(4) {
		wantNoChange(t, "wrong: "+what, r, proposal(1, 0, other))
	}
	for _, n := range someServers[1:] {
		for i, pair := range twins(n) {
			for at := range pair {
				one, other := pair[at], pair[1-at]
				wantNoChange(t, fmt.Sprint("of one Name, ", i, at), withBlocks(0, n, one), proposal(1, 0, other))
			}
			// A Proof by the one's View is not of the other one.
			wantNoChange(t, "on the other one", withBlocks(0, n, pair[0]), proposal(1, 0, blockOn(proofOf(3-pair[0].View, impl.Name(pair[0]), serversTo(n)...), 5, n)))
		}
	}
	// Block 61 finds no room, and so changes nothing else either.
	full := withBlocks(0, 4, manyBlocks(4, 1, 60)...)
	next := blockOn(proofFor(full.Blocks[7], 4), 2, 4)
	wantNoChange(t, "no room", full, proposal(2, 0, next))
	full.Blocks = full.Blocks[:59]
	want := replicaAs(full, func(r *impl.Replica) {
		r.View, r.Voted, r.High, r.Blocks = 2, 2, next.Proof, append(r.Blocks, next)
	})
	wantHeard(t, "room for one", full, proposal(2, 0, next), want, ballotTo(3, voteFor(next, 0)))
	wantNoChange(t, "and for no more", want, proposal(2, 0, chainOf(4, 9)[0]))
}

// Voted and Locked alone tell whether one votes; the Block comes in and its Proof counts all the same.
func TestHearOfABlockWhetherItVotes(t *testing.T) {
	b := chainOf(4, 3, 5, 7)
	for _, voted := range []int64{0, 1, 4, 6, 7, 8, mostView} {
		for _, locked := range []int64{0, 1, 3, 4, 5, 6, 7, 8, mostView} {
			for _, view := range []int64{1, 5, 6, 7, 8, 100, mostView} {
				r := replicaAs(withBlocks(1, 4, b[:2]...), func(r *impl.Replica) { r.View, r.Voted, r.Locked = view, voted, locked })
				want := replicaAs(r, func(r *impl.Replica) {
					r.View, r.Locked, r.High, r.Blocks = max(view, 7), max(locked, 3), b[2].Proof, b
				})
				sent := []impl.Message{}
				if voted < 7 && locked <= 5 {
					want.Voted = 7
					sent = append(sent, ballotTo(0, voteFor(b[2], 1)))
				}
				wantHeard(t, fmt.Sprint("Voted ", voted, ", Locked ", locked, ", View ", view), r, proposal(3, 1, b[2]), want, sent...)
			}
		}
	}
	// On the first Proof: its View is 0, so one that is locked votes no more.
	for locked := range int64(2) {
		r := replicaAs(newOf(1, 4), func(r *impl.Replica) { r.Locked = locked })
		want := replicaAs(r, func(r *impl.Replica) { r.View, r.Blocks = 3, b[:1] })
		sent := []impl.Message{}
		if locked == 0 {
			want.Voted = 3
			sent = append(sent, ballotTo(0, voteFor(b[0], 1)))
		}
		wantHeard(t, fmt.Sprint("on the first one, Locked ", locked), r, proposal(3, 1, b[0]), want, sent...)
	}
	// Another Block of a View in which one voted: it comes in, and that is all.
	other := blockOn(impl.Proof{}, 3, 4, "other")
	r := replicaAs(withBlocks(1, 4, b[0]), func(r *impl.Replica) { r.View, r.Voted = 3, 3 })
	wantHeard(t, "two of a View", r, proposal(3, 1, other), replicaAs(r, func(r *impl.Replica) { r.Blocks = append(r.Blocks, other) }))
}

func TestHearAtMaxView(t *testing.T) {
	for _, n := range []int64{4, 7} {
		b := chainOf(n, mostView-2, mostView-1, mostView)
		to := (int64(mostView) + 1) % n
		id := (to + 1) % n
		r := replicaAs(withBlocks(id, n, b[:2]...), func(r *impl.Replica) { r.View = mostView - 1 })
		want := replicaAs(r, func(r *impl.Replica) {
			r.View, r.Voted, r.Locked, r.High, r.Blocks = mostView, mostView, mostView-2, b[2].Proof, b
		})
		wantHeard(t, "a Block of MaxView", r, proposal((id+1)%n, id, b[2]), want, ballotTo(to, voteFor(b[2], id)))
		p := proofFor(b[2], n)
		done := replicaAs(want, func(r *impl.Replica) { r.Locked, r.High, r.Done = mostView-1, p, namesOf(b[:1]) })
		wantHeard(t, "a Proof of MaxView", want, newsTo((id+1)%n, id, 0, p), done)
		// The Votes of MaxView go to a server too, though nobody proposes on them.
		r = replicaAs(withBlocks(to, n, b...), func(r *impl.Replica) {
			r.Votes = votesOf(mostView, impl.Name(b[2]), serversTo(n)[:quorumByRule(n)-1]...)
		})
		last := voteFor(b[2], quorumByRule(n)-1)
		want = replicaAs(r, func(r *impl.Replica) {
			r.View, r.Locked, r.High, r.Votes, r.Done = mostView, mostView-1, p, append(r.Votes, last), namesOf(b[:1])
		})
		wantHeard(t, "the Votes of MaxView", r, impl.Message{Kind: impl.MsVote, From: (to + 1) % n, To: to, Vote: last}, want)
	}
}

// What a Proof does, by News of another's View, which are not taken.
func TestHearOfAProof(t *testing.T) {
	b := chainOf(4, 1, 2, 4, 5, 6)
	hear := func(name string, r impl.Replica, p impl.Proof, change func(*impl.Replica)) {
		t.Helper()
		wantHeard(t, name, r, newsTo(3, 0, 9, p), replicaAs(r, change))
	}
	none := func(r *impl.Replica) {}
	r := withBlocks(0, 4, b...)
	of := func(i int) impl.Proof { return proofFor(b[i], 4) }
	hear("the first one", r, impl.Proof{}, none)
	hear("the first one, of empty lists", r, impl.Proof{By: []int64{}, Tags: []int64{}}, none)
	hear("of View 1", r, of(0), func(r *impl.Replica) { r.High, r.View = of(0), 2 })
	hear("of View 2", r, of(1), func(r *impl.Replica) { r.High, r.View, r.Locked = of(1), 3, 1 })
	hear("of View 4, no two in a row", r, of(2), func(r *impl.Replica) { r.High, r.View, r.Locked = of(2), 5, 2 })
	hear("of View 5, no three in a row", r, of(3), func(r *impl.Replica) { r.High, r.View, r.Locked = of(3), 6, 4 })
	hear("of View 6, three in a row", r, of(4), func(r *impl.Replica) { r.High, r.View, r.Locked, r.Done = of(4), 7, 5, namesOf(b[:3]) })
	r = replicaAs(r, func(r *impl.Replica) { r.High, r.View, r.Locked = of(2), 5, 2 })
	hear("below High", r, of(0), none)
	hear("the first one, below High", r, impl.Proof{}, none)
	hear("at High", r, of(2), none)
	hear("at High, by others", r, proofForBy(b[2], 1, 2, 3), none)
	hear("at High, by all", r, proofForBy(b[2], 0, 1, 2, 3), none)
	hear("above High, by others", r, proofForBy(b[3], 0, 2, 3), func(r *impl.Replica) {
		r.High, r.View, r.Locked = proofForBy(b[3], 0, 2, 3), 6, 4
	})
	// High stays where the View is the same, though it is of another Block.
	other := blockOn(impl.Proof{}, 4, 4, "other")
	both := replicaAs(r, func(r *impl.Replica) { r.Blocks = append(r.Blocks, other) })
	hear("another one of High's View", both, proofFor(other, 4), none)
	// What High does not tell of may rise by a lower Proof: one becomes so only by what it was told.
	low := replicaAs(withBlocks(0, 4, b...), func(r *impl.Replica) { r.High = of(4) })
	hear("below High, above View", low, of(0), func(r *impl.Replica) { r.View = 2 })
	hear("below High, above Locked", low, of(3), func(r *impl.Replica) { r.View, r.Locked = 6, 4 })
	hear("at High, above all", low, proofForBy(b[4], 1, 2, 3), func(r *impl.Replica) { r.View, r.Locked, r.Done = 7, 5, namesOf(b[:3]) })
	// What is above already stays.
	far := replicaAs(r, func(r *impl.Replica) { r.View, r.Locked = 500, 400 })
	hear("View and Locked far above", far, of(4), func(r *impl.Replica) { r.High, r.Done = of(4), namesOf(b[:3]) })
	for view := int64(4); view <= 8; view++ {
		for locked := int64(2); locked <= 6; locked++ {
			r := replicaAs(r, func(r *impl.Replica) { r.View, r.Locked = view, locked })
			hear(fmt.Sprint("View ", view, ", Locked ", locked), r, of(3), func(r *impl.Replica) { r.High, r.View, r.Locked = of(3), max(view, 6), max(locked, 4) })
		}
	}
}

func TestHearOfAProofThatIsNotTaken(t *testing.T) {
	b := chainOf(4, 1, 2, 3, 4)
	r := withBlocks(0, 4, b[:3]...)
	name, all := impl.Name(b[2]), []int64{0, 1, 2, 3}
	for what, p := range map[string]impl.Proof{
		"of a Block that is not there":      proofFor(b[3], 4),
		"of a Block's Name, a View more":    proofOf(4, name, all...),
		"of a Block's Name, a View less":    proofOf(2, name, all...),
		"of a Block's Name, far above":      proofOf(mostView, name, all...),
		"of a Block's View, a Name more":    proofOf(3, name+1, all...),
		"of a Block's View, another's Name": proofOf(3, impl.Name(b[1]), all...),
		"of Name 0":                         proofOf(3, 0, all...),
		"by two of four":                    proofForBy(b[2], 1, 3),
		"by nobody":                         {View: 3, Name: name},
		"by one twice":                      proofForBy(b[2], 0, 1, 1),
		"by five of seven":                  proofForBy(b[2], 0, 1, 2, 3, 4),
	} {
		wantNoChange(t, what, r, newsTo(3, 0, 9, p))
		// The News are taken by themselves.
		wantHeard(t, what+", with News", r, newsTo(3, 0, 8, p), replicaAs(r, func(r *impl.Replica) { r.News = []impl.News{{View: 8, From: 3}} }))
	}
	for what, p := range wrongProofs(4) {
		wantNoChange(t, "wrong: "+what, r, newsTo(3, 0, 9, p))
	}
	for i := range 3 {
		for at := range 3 {
			p := proofFor(b[i], 4)
			p.Tags[at]++
			wantNoChange(t, fmt.Sprint("Tag ", at, " of Block ", i), r, newsTo(3, 0, 9, p))
		}
	}
	for _, pair := range twins(4)[:1] {
		r := withBlocks(0, 4, pair[0])
		wantNoChange(t, "of another one of its Name", r, newsTo(3, 0, 9, proofFor(pair[1], 4)))
	}
}

// Three in a row are what is waited for, and nothing else; on which Block the last one lies tells what is Done.
func TestHearWhatIsDone(t *testing.T) {
	for _, n := range []int64{4, 7} {
		for name, x := range map[string]struct {
			views []int64
			done  int
		}{
			"one":                           {[]int64{1}, 0},
			"two":                           {[]int64{1, 2}, 0},
			"three":                         {[]int64{1, 2, 3}, 1},
			"two, and a View 0 that is not": {[]int64{2, 3}, 0},
			"three, from View 5 on":         {[]int64{5, 6, 7}, 1},
			"the first is left out":         {[]int64{1, 3, 4}, 0},
			"the second is left out":        {[]int64{1, 2, 4}, 0},
			"both are left out":             {[]int64{1, 3, 5}, 0},
			"two Views are left out":        {[]int64{1, 2, 5}, 0},
			"four":                          {[]int64{1, 2, 3, 4}, 2},
			"one, and three":                {[]int64{1, 3, 4, 5}, 2},
			"two, and three":                {[]int64{1, 2, 40, 41, 42}, 3},
			"three, and one":                {[]int64{1, 2, 3, 5}, 0},
			"three, and two":                {[]int64{1, 2, 3, 5, 6}, 0},
			"five with holes, and three":    {[]int64{2, 4, 6, 8, 10, 12, 13, 14}, 6},
			"up to MaxView":                 {[]int64{1, mostView - 2, mostView - 1, mostView}, 2},
			"up to MaxView with a hole":     {[]int64{1, mostView - 3, mostView - 1, mostView}, 0},
			"sixty":                         {rising(1, 60), 58},
		} {
			b := chainOf(n, x.views...)
			last := b[len(b)-1]
			r := withBlocks(0, n, b...)
			p := proofFor(last, n)
			want := replicaAs(r, func(r *impl.Replica) {
				r.View, r.High, r.Locked, r.Done = min(last.View+1, mostView), p, last.Proof.View, namesOf(b[:x.done])
			})
			wantHeard(t, fmt.Sprint(name, ", of ", n), r, newsTo(1, 0, 1, p), want)
		}
	}
}

func TestHearWhatIsDoneAlready(t *testing.T) {
	b := chainOf(4, 1, 2, 3, 4, 5)
	parts := chainOn(proofFor(b[0], 4), 4, 6, 7, 8)
	all := withBlocks(0, 4, append(slices.Clone(b), parts...)...)
	done := func(from []int64) impl.Replica { return replicaAs(all, func(r *impl.Replica) { r.Done = from }) }
	hear := func(name string, from []int64, last impl.Block, want []int64) {
		t.Helper()
		p, r := proofFor(last, 4), done(from)
		wantHeard(t, name, r, newsTo(1, 0, 1, p), replicaAs(r, func(r *impl.Replica) {
			r.View, r.High, r.Locked, r.Done = last.View+1, p, last.Proof.View, want
		}))
	}
	names := namesOf(b)
	parted := []int64{names[0], impl.Name(parts[0])}
	hear("from nothing", nil, b[4], names[:3])
	hear("from one", names[:1], b[4], names[:3])
	hear("from two", names[:2], b[4], names[:3])
	hear("as long", names[:3], b[4], names[:3])
	hear("longer already", names[:4], b[4], names[:4])
	hear("all already", names[:5], b[4], names[:5])
	hear("what parts, from nothing", nil, parts[2], parted)
	hear("what parts, from where it parts", names[:1], parts[2], parted)
	hear("what parts from what is Done, as long", names[:2], parts[2], names[:2])
	hear("what parts from what is Done, shorter", names[:3], parts[2], names[:3])
	hear("what parts from what is Done, longer", parted, b[4], parted)
	hear("what parts, as it is", parted, parts[2], parted)
	// A chain that begins with another Block.
	other := chainOn(impl.Proof{}, 4, 9, 10, 11, 12)
	r := replicaAs(all, func(r *impl.Replica) { r.Blocks, r.Done = append(r.Blocks, other...), names[:1] })
	p := proofFor(other[3], 4)
	wantHeard(t, "another beginning", r, newsTo(1, 0, 1, p), replicaAs(r, func(r *impl.Replica) { r.View, r.High, r.Locked = 13, p, 11 }))
}

func TestHearOfNews(t *testing.T) {
	first := impl.Proof{}
	for _, n := range []int64{4, 7} {
		for id := range n {
			from := (id + 2) % n
			for _, view := range []int64{1, 2, 3, 4, 5, 6, 7, 8, 28, 29, mostView - 6, mostView - 5, mostView - 4, mostView - 3, mostView - 2, mostView - 1, mostView} {
				r := newOf(id, n)
				want := replicaAs(r, func(r *impl.Replica) {
					if view%n == id {
						r.News = []impl.News{{View: view, From: from}}
					}
				})
				wantHeard(t, fmt.Sprint("View ", view, " by ", id, " of ", n), r, newsTo(from, id, view, first), want)
			}
			for _, view := range append(farNumbers, 0, -1, -n, id-n, id-2*n, -mostView, mostView+1, mostView+2, mostView+3, mostView+4, mostView+5, mostView+6, mostView+7) {
				wantNoChange(t, fmt.Sprint("View ", view, " by ", id, " of ", n), newOf(id, n), newsTo(from, id, view, first))
			}
		}
	}
	// Whatever the View of the server is, above or below.
	for _, view := range []int64{1, 7, 8, 9, mostView} {
		r := replicaAs(newOf(0, 4), func(r *impl.Replica) { r.View = view })
		wantHeard(t, fmt.Sprint("News of View 8 at ", view), r, newsTo(1, 0, 8, first), replicaAs(r, func(r *impl.Replica) { r.News = []impl.News{{View: 8, From: 1}} }))
	}
}

func TestHearOfNewsTwice(t *testing.T) {
	first := impl.Proof{}
	r := replicaAs(newOf(0, 4), func(r *impl.Replica) {
		r.News = []impl.News{{View: 4, From: 1}, {View: 8, From: 2}, {View: 3, From: 3}}
	})
	comes := func(view int64, from int64) {
		t.Helper()
		want := replicaAs(r, func(r *impl.Replica) { r.News = append(r.News, impl.News{View: view, From: from}) })
		wantHeard(t, fmt.Sprint(view, " from ", from), r, newsTo(from, 0, view, first), want)
	}
	for _, there := range r.News {
		wantNoChange(t, shortly(there), r, newsTo(there.From, 0, there.View, first))
	}
	comes(4, 2)
	comes(4, 3)
	comes(8, 1)
	comes(8, 3)
	comes(12, 1)
	for count := range 31 {
		r = replicaAs(newOf(0, 4), func(r *impl.Replica) { r.News = manyNews(count) })
		if count < 30 {
			comes(4, 1)
		} else {
			wantNoChange(t, "no room", r, newsTo(1, 0, 4, first))
		}
	}
	// The Proof counts where the News find no room, are known, or are another's.
	b := chainOf(4, 1)
	r = replicaAs(r, func(r *impl.Replica) { r.Blocks = b })
	p := proofFor(b[0], 4)
	with := func(r *impl.Replica) { r.High, r.View = p, 2 }
	wantHeard(t, "no room, but a Proof", r, newsTo(1, 0, 4, p), replicaAs(r, with))
	r = replicaAs(r, func(r *impl.Replica) { r.News = newsFor(4, 2) })
	wantHeard(t, "known, but a Proof", r, newsTo(1, 0, 4, p), replicaAs(r, with))
	wantHeard(t, "another's, but a Proof", r, newsTo(1, 0, 5, p), replicaAs(r, with))
	wantHeard(t, "View 0, but a Proof", r, newsTo(1, 0, 0, p), replicaAs(r, with))
	wantHeard(t, "both", r, newsTo(3, 0, 4, p), replicaAs(r, with, func(r *impl.Replica) { r.News = append(r.News, impl.News{View: 4, From: 3}) }))
}

// Votes for a Block of View 1 go to server 2: the one that makes the quorum tells the Proof, whatever the order.
func TestHearOfVotesInEachOrder(t *testing.T) {
	b := chainOf(4, 1)
	name := impl.Name(b[0])
	votes := votesOf(1, name, 0, 1, 3)
	for _, order := range [][]int{{0, 1, 2}, {0, 2, 1}, {1, 0, 2}, {1, 2, 0}, {2, 0, 1}, {2, 1, 0}} {
		for own := range 4 {
			r := withBlocks(2, 4, b...)
			heard, servers := []impl.Vote{}, []int64{}
			for i, at := range order {
				if own == i {
					// Its own Vote may be there at any time.
					r.Votes = append(r.Votes, voteFor(b[0], 2))
					heard, servers = append(heard, voteFor(b[0], 2)), append(servers, 2)
				}
				heard, servers = append(heard, votes[at]), append(servers, votes[at].By)
				want := replicaAs(r, func(r *impl.Replica) { r.Votes = heard })
				if len(servers) >= 3 && want.High.View == 0 {
					sorted := slices.Sorted(slices.Values(servers))
					want.High, want.View = proofOf(1, name, sorted...), 2
				}
				wantHeard(t, fmt.Sprint(order, " at ", i, ", own at ", own), r, ballotTo(2, votes[at]), want)
				wantNoChange(t, fmt.Sprint(order, " at ", i, ", twice"), want, ballotTo(2, votes[at]))
				r = want
			}
		}
	}
}

// As many as are a quorum make the Proof, and one less does not, of however many servers.
func TestHearOfVotesUpToAQuorum(t *testing.T) {
	for _, n := range []int64{4, 7} {
		for view := int64(1); view <= n; view++ {
			b := chainOf(n, view)
			id := (view + 1) % n
			r := withBlocks(id, n, b...)
			for i, server := range serversTo(n) {
				if server == id {
					continue
				}
				want := replicaAs(r, func(r *impl.Replica) { r.Votes = append(r.Votes, voteFor(b[0], server)) })
				if int64(len(want.Votes)) == quorumByRule(n) {
					servers := []int64{}
					for _, v := range want.Votes {
						servers = append(servers, v.By)
					}
					want.High, want.View = proofForBy(b[0], servers...), view+1
				}
				wantHeard(t, fmt.Sprint("View ", view, ", Vote ", i, " of ", n), r, ballotTo(id, voteFor(b[0], server)), want)
				r = want
			}
			if r.High.View != view {
				t.Errorf("View %d of %d: %s", view, n, shortly(r))
			}
		}
	}
}

func TestHearOfVotesThatAreNotTaken(t *testing.T) {
	b := chainOf(4, 1, 2, 5)
	other := blockOn(impl.Proof{}, 1, 4, "other")
	r := withBlocks(2, 4, append(b, other)...)
	name := impl.Name(b[0])
	hear := func(what string, v impl.Vote) {
		t.Helper()
		wantNoChange(t, what, r, impl.Message{Kind: impl.MsVote, From: 1, To: 2, Vote: v})
	}
	hear("zero", impl.Vote{})
	hear("of a Block that is not there", voteFor(chainOf(4, 9)[0], 1))
	hear("of a View 1 that nobody proposed", voteOf(1, 1, name+1))
	hear("of a Block's Name and another View, with this turn", voteOf(1, 5, name))
	hear("of a Block's Name and another View, another's turn", voteOf(1, 2, name))
	hear("of View 2, whose Votes go to server 3", voteFor(b[1], 1))
	hear("of Name 0", voteOf(1, 1, 0))
	hear("of server 4", voteOf(4, 1, name))
	hear("of server -1", voteOf(-1, 1, name))
	hear("of View 0", voteOf(1, 0, name))
	for _, by := range bentVotes(voteFor(b[0], 1)) {
		hear("bent", by)
	}
	for _, v := range wrongVotes(4) {
		hear("wrong", v)
	}
	for _, v := range []impl.Vote{voteFor(b[0], 1), voteFor(b[2], 1), voteFor(other, 1)} {
		want := replicaAs(r, func(r *impl.Replica) { r.Votes = []impl.Vote{v} })
		wantHeard(t, "one that is right", r, impl.Message{Kind: impl.MsVote, From: 3, To: 2, Vote: v}, want)
	}
	// Those of other Blocks and other Views are no part of a quorum, and neither is one that is there twice.
	for what, votes := range map[string][]impl.Vote{
		"of another Block of the View": {voteFor(b[0], 0), voteFor(other, 1), voteFor(other, 2)},
		"of another View":              {voteFor(b[0], 0), voteFor(b[2], 1), voteFor(b[2], 2)},
		"of one Name, another View":    {voteFor(b[0], 0), voteOf(1, 5, name), voteOf(2, 5, name)},
		"one server's more than once":  {voteFor(b[0], 0), voteFor(b[0], 0), voteFor(b[0], 0)},
	} {
		r := replicaAs(r, func(r *impl.Replica) { r.Votes = votes })
		wantHeard(t, what, r, ballotTo(2, voteFor(b[0], 3)), replicaAs(r, func(r *impl.Replica) { r.Votes = append(r.Votes, voteFor(b[0], 3)) }))
	}
	wide := replicaAs(r, func(r *impl.Replica) {
		r.Votes = []impl.Vote{voteFor(b[2], 0), voteFor(b[0], 3), voteFor(b[0], 3), voteFor(other, 2), voteFor(b[0], 1)}
	})
	want := replicaAs(wide, func(r *impl.Replica) {
		r.Votes, r.View, r.High = append(r.Votes, voteFor(b[0], 0)), 2, proofForBy(b[0], 0, 1, 3)
	})
	wantHeard(t, "a quorum among others", wide, ballotTo(2, voteFor(b[0], 0)), want)
}

func TestHearOfVotesWhereThereIsNoRoom(t *testing.T) {
	b := chainOf(4, 1)
	for count := 57; count <= 60; count++ {
		r := replicaAs(withBlocks(2, 4, b...), func(r *impl.Replica) { r.Votes = append(manyVotes(count-2), voteFor(b[0], 0), voteFor(b[0], 1)) })
		v := voteFor(b[0], 3)
		want := replicaAs(r, func(r *impl.Replica) {
			if count < 60 {
				r.Votes, r.View, r.High = append(r.Votes, v), 2, proofForBy(b[0], 0, 1, 3)
			}
		})
		wantHeard(t, fmt.Sprint(count, " Votes"), r, ballotTo(2, v), want)
	}
	// One's own finds no room either; Voted is kept all the same.
	next := chainOf(4, 1)[0]
	r := replicaAs(newOf(2, 4), func(r *impl.Replica) { r.Votes = manyVotes(60) })
	wantHeard(t, "one's own", r, proposal(1, 2, next), replicaAs(r, func(r *impl.Replica) { r.Voted, r.Blocks = 1, b }))
	r = replicaAs(newOf(2, 4), func(r *impl.Replica) { r.Votes = append(manyVotes(57), votesOf(1, impl.Name(next), 0, 3)...) })
	want := replicaAs(r, func(r *impl.Replica) {
		r.Voted, r.Blocks, r.Votes, r.View, r.High = 1, b, append(r.Votes, voteFor(next, 2)), 2, proofForBy(next, 0, 2, 3)
	})
	wantHeard(t, "one's own, which makes the quorum", r, proposal(1, 2, next), want)
	// One's own that is there already does not come again, and makes no quorum anew.
	r = replicaAs(newOf(2, 4), func(r *impl.Replica) { r.Votes = votesOf(1, impl.Name(next), 0, 2, 3) })
	wantHeard(t, "one's own is there", r, proposal(1, 2, next), replicaAs(r, func(r *impl.Replica) { r.Voted, r.Blocks = 1, b }))
}

// A quorum of Votes does what its Proof does: Locked rises, and what is three Blocks back is Done.
func TestHearOfVotesThatMakeDone(t *testing.T) {
	b := chainOf(4, 1, 2, 3, 4)
	name := impl.Name(b[2])
	r := replicaAs(withBlocks(0, 4, b...), func(r *impl.Replica) { r.Votes = votesOf(3, name, 3, 1) })
	want := replicaAs(r, func(r *impl.Replica) {
		r.Votes, r.View, r.High, r.Locked, r.Done = votesOf(3, name, 3, 1, 2), 4, proofForBy(b[2], 1, 2, 3), 2, namesOf(b[:1])
	})
	wantHeard(t, "the third of three", r, ballotTo(0, voteFor(b[2], 2)), want)
	low := replicaAs(r, func(r *impl.Replica) { r.View, r.High, r.Locked = 9, proofFor(b[3], 4), 8 })
	wantHeard(t, "below High", low, ballotTo(0, voteFor(b[2], 2)), replicaAs(low, func(r *impl.Replica) {
		r.Votes, r.Done = votesOf(3, name, 3, 1, 2), namesOf(b[:1])
	}))
	// The fourth Vote tells the Proof again, which changes nothing of High.
	after := replicaAs(want, func(r *impl.Replica) { r.Votes = append(r.Votes, voteFor(b[2], 0)) })
	wantHeard(t, "the fourth", want, impl.Message{Kind: impl.MsVote, From: 1, Vote: voteFor(b[2], 0)}, after)
	// Behind a Restart all Votes have to come again.
	r = impl.Restart(want)
	for i, server := range []int64{1, 2, 3} {
		want := replicaAs(r, func(r *impl.Replica) { r.Votes = append(r.Votes, voteFor(b[2], server)) })
		wantHeard(t, fmt.Sprint("again, ", i), r, ballotTo(0, voteFor(b[2], server)), want)
		r = want
	}
}

// What goes to another server, comes from the server itself or from none, or is of no Kind, changes nothing.
func TestHearOfWhatIsNotForOne(t *testing.T) {
	b := chainOf(4, 1, 2)
	r := replicaAs(withBlocks(2, 4, b[0]), func(r *impl.Replica) { r.Votes = votesOf(1, impl.Name(b[0]), 0, 1) })
	p := proofFor(b[0], 4)
	messages := map[string]impl.Message{
		"a Block": proposal(1, 2, b[1]),
		"a Vote":  ballotTo(2, voteFor(b[0], 3)),
		"News":    newsTo(1, 2, 6, p),
		"all":     {Kind: impl.MsNew, From: 1, To: 2, View: 6, Block: b[1], Vote: voteFor(b[0], 3), Proof: p},
	}
	for name, m := range messages {
		for _, from := range append(farNumbers, -5, -4, -3, -2, -1, 0, 1, 2, 3, 4, 5, 6, 7, 8) {
			for _, to := range append(farNumbers, -2, -1, 0, 1, 2, 3, 4, 6) {
				other := m
				other.From, other.To = from, to
				got, sent := checkHear(t, r, other)
				isForOne := to == 2 && from != 2 && inRange(from, 0, 3)
				if isChanged := !sameReplica(got, r); isChanged != isForOne || !isChanged && len(sent) > 0 {
					t.Errorf("%s from %d to %d: %s", name, from, to, shortly(got))
				}
			}
		}
		for _, kind := range append(farNumbers, -3, -2, -1, 0, 4, 5, 255, 256, 257, 258, 259) {
			other := m
			other.Kind = kind
			wantNoChange(t, fmt.Sprint(name, " of Kind ", kind), r, other)
		}
	}
	// The Kind tells what counts of a message, and nothing else of it does.
	for kind, name := range map[int64]string{1: "a Block", 2: "a Vote", 3: "News"} {
		alone, m := messages[name], messages["all"]
		m.Kind = kind
		got, sent := impl.Hear(r, m)
		alone.From = 1
		want, wantTo := impl.Hear(r, alone)
		if !sameReplica(got, want) || !sameMessages(sent, wantTo) || sameReplica(got, r) {
			t.Errorf("%s with all else: %s", name, shortly(got))
		}
	}
	wantNoChange(t, "the zero message", r, impl.Message{})
	wantNoChange(t, "the zero message, to server 0", newOf(0, 4), impl.Message{})
	// Of one server alone there is no other one.
	one := withBlocks(0, 1, chainOf(1, 1)...)
	for from := int64(-1); from <= 1; from++ {
		wantNoChange(t, "one alone, a Block", one, proposal(from, 0, chainOf(1, 1, 2)[1]))
		wantNoChange(t, "one alone, a Vote", one, impl.Message{Kind: impl.MsVote, From: from, Vote: voteFor(one.Blocks[0], 0)})
		wantNoChange(t, "one alone, News", one, newsTo(from, 0, 3, proofFor(one.Blocks[0], 1)))
	}
}

// wantProposed asks for the Replica as it is left, and for a Block to all others, and what goes behind it.
func wantProposed(t *testing.T, name string, r impl.Replica, moves []string, want impl.Replica, b impl.Block, behind ...impl.Message) {
	t.Helper()
	if !impl.ReplicaOk(r) || !impl.ReplicaOk(want) || !impl.BlockOk(b, r.N) {
		t.Errorf("%s: not right: %v, %v and %v", name, impl.ReplicaOk(r), impl.ReplicaOk(want), impl.BlockOk(b, r.N))
	}
	wantTo := []impl.Message{}
	for to := range r.N {
		if to != r.Id {
			wantTo = append(wantTo, proposal(r.Id, to, b))
		}
	}
	got, sent, is := impl.Propose(r, moves)
	if !is || !sameReplica(got, want) || !sameMessages(sent, append(wantTo, behind...)) {
		t.Errorf("%s: %s, %s and %v, not %s", name, shortly(got), shortly(sent), is, shortly(want))
	}
	// One server alone goes on to the next View at once.
	if r.N > 1 {
		refusePropose(t, name+", twice in a View", want, moves...)
	}
}

func refusePropose(t *testing.T, name string, r impl.Replica, moves ...string) {
	t.Helper()
	if !impl.ReplicaOk(r) {
		t.Errorf("%s: not right", name)
	}
	if got, sent, is := impl.Propose(r, moves); is || !sameReplica(got, r) || len(sent) > 0 {
		t.Errorf("%s: %s, %s and %v", name, shortly(got), shortly(sent), is)
	}
}

// onHigh is what a server has to propose.
func onHigh(r impl.Replica, moves ...string) impl.Block {
	return impl.Block{View: r.View, Parent: r.High.Name, Proof: r.High, Moves: moves, By: r.Id}
}

// proposed is what becomes of one that votes for its own Block, and hands its Vote to another server.
func proposed(r impl.Replica, b impl.Block) impl.Replica {
	return replicaAs(r, func(r *impl.Replica) { r.Proposed, r.Voted, r.Blocks = r.View, r.View, append(r.Blocks, b) })
}

func TestProposeOfNewReplicas(t *testing.T) {
	for _, n := range []int64{4, 7} {
		for id := range n {
			r := newOf(id, n)
			if id != 1 {
				refusePropose(t, fmt.Sprint("server ", id, " of ", n), r, "m")
				continue
			}
			for _, moves := range [][]string{nil, {}, {"m"}, {"", "0 1 300 0", "\xff"}, repeated(sized(60), 10)} {
				b := onHigh(r, moves...)
				wantProposed(t, fmt.Sprint(len(moves), " Moves of ", n), r, moves, proposed(r, b), b, ballotTo(2, voteFor(b, 1)))
			}
		}
	}
}

// Whose turn it is: in its own Views alone, and in each once.
func TestProposeInTurn(t *testing.T) {
	for _, n := range []int64{4, 7} {
		for view := int64(2); view <= 2*n+1; view++ {
			ahead := chainOf(n, view-1)
			for id := range n {
				r := replicaAs(withBlocks(id, n, ahead...), func(r *impl.Replica) { r.View, r.High = view, proofFor(ahead[0], n) })
				name := fmt.Sprint("View ", view, " by ", id, " of ", n)
				if view%n != id {
					refusePropose(t, name, r, "m")
					continue
				}
				b := onHigh(r, "m")
				wantProposed(t, name, r, b.Moves, proposed(r, b), b, ballotTo((view+1)%n, voteFor(b, id)))
				for _, last := range []int64{0, 1, view - 2, view - 1, view, view + 1, mostView} {
					if last < 0 {
						continue
					}
					r := replicaAs(r, func(r *impl.Replica) { r.Proposed = last })
					name := fmt.Sprint(name, ", Proposed ", last)
					if last < view {
						wantProposed(t, name, r, b.Moves, proposed(r, b), b, ballotTo((view+1)%n, voteFor(b, id)))
					} else {
						refusePropose(t, name, r, "m")
					}
				}
			}
		}
	}
}

// High of an older View takes News of a quorum; High of this View or of one above it can't be proved by a Block of this View.
func TestProposeByNews(t *testing.T) {
	for _, n := range []int64{4, 7} {
		quorum, view := quorumByRule(n), n+3
		for _, high := range []int64{0, 1, view - 2, view - 1, view, view + 1} {
			r := replicaAs(newOf(3, n), func(r *impl.Replica) { r.View = view })
			if high > 0 {
				r.Blocks = chainOf(n, high)
				r.High = proofFor(r.Blocks[0], n)
			}
			for count := int64(0); count <= n; count++ {
				for what, news := range map[string][]impl.News{
					"of the first":     newsFor(view, count),
					"of the last":      newsFor(view, n)[n-count:],
					"behind others":    append(append(newsFor(view-1, n), newsFor(view+1, n)...), newsFor(view, count)...),
					"ahead of others":  append(newsFor(view, count), newsFor(view+n, n)...),
					"each twice":       append(newsFor(view, count), newsFor(view, count)...),
					"one of them more": append(newsFor(view, count), slices.Repeat(newsFor(view, min(count, 1)), int(quorum))...),
				} {
					r := replicaAs(r, func(r *impl.Replica) { r.News = news })
					name := fmt.Sprint("High of View ", high, " in View ", view, " with ", count, " News ", what)
					if high >= view || high < view-1 && count < quorum {
						refusePropose(t, name, r, "m")
						continue
					}
					b := onHigh(r, "m")
					wantProposed(t, name, r, b.Moves, proposed(r, b), b, ballotTo(4%n, voteFor(b, 3)))
				}
			}
		}
	}
}

func TestProposeOfMoves(t *testing.T) {
	for _, n := range someServers {
		r := newOf(1%n, n)
		for name, moves := range map[string][]string{
			"eleven":            repeated("m", 11),
			"eleven of nothing": repeated("", 11),
			"201":               repeated("", 201),
			"61 bytes":          {sized(61)},
			"61 bytes, at last": append(repeated("m", 9), sized(61)),
			"3001 bytes":        {sized(3001)},
		} {
			refusePropose(t, name, r, moves...)
		}
		for count := range 11 {
			got, _, is := checkPropose(t, r, repeated(sized(60), count))
			if !is || len(got.Blocks) != 1 || len(got.Blocks[0].Moves) != count {
				t.Errorf("%d Moves of %d: %s and %v", count, n, shortly(got), is)
			}
		}
	}
}

// A Block that finds no room, or is there already, goes to all others, and is not taken.
func TestProposeOfWhatIsNotTaken(t *testing.T) {
	for count := 59; count <= 60; count++ {
		full := withBlocks(2, 4, manyBlocks(4, 1, count)...)
		r := replicaAs(full, func(r *impl.Replica) { r.View, r.High = 2, proofFor(r.Blocks[0], 4) })
		b := onHigh(r, "m")
		if count < 60 {
			wantProposed(t, "room for one", r, b.Moves, proposed(r, b), b, ballotTo(3, voteFor(b, 2)))
		} else {
			wantProposed(t, "no room", r, b.Moves, replicaAs(r, func(r *impl.Replica) { r.Proposed = 2 }), b)
		}
	}
	b := chainOf(4, 1)[0]
	r := withBlocks(1, 4, b)
	wantProposed(t, "there already", r, b.Moves, replicaAs(r, func(r *impl.Replica) { r.Proposed = 1 }), b)
	pair := twins(4)[1]
	r = withBlocks(1, 4, pair[0])
	wantProposed(t, "one of its Name is there", r, pair[1].Moves, replicaAs(r, func(r *impl.Replica) { r.Proposed = 1 }), pair[1])
}

// Its own Block is voted for as another's is.
func TestProposeWhetherItVotes(t *testing.T) {
	ahead := chainOf(4, 1, 2, 3, 5)
	for _, voted := range []int64{0, 5, 6, 7, mostView} {
		for _, locked := range []int64{0, 3, 4, 5, 6, mostView} {
			r := replicaAs(withBlocks(2, 4, ahead...), func(r *impl.Replica) {
				r.View, r.Voted, r.Locked, r.High = 6, voted, locked, proofFor(ahead[3], 4)
			})
			b := onHigh(r, "m")
			want := replicaAs(r, func(r *impl.Replica) { r.Proposed, r.Locked, r.Blocks = 6, max(locked, 3), append(r.Blocks, b) })
			behind := []impl.Message{}
			if voted < 6 && locked <= 5 {
				want.Voted = 6
				behind = append(behind, ballotTo(3, voteFor(b, 2)))
			}
			wantProposed(t, fmt.Sprint("Voted ", voted, ", Locked ", locked), r, b.Moves, want, b, behind...)
		}
	}
	// Its own Proof is taken with it: what High tells of is Done, if it is not yet.
	long := chainOf(4, 1, 2, 3, 4, 5)
	r := replicaAs(withBlocks(2, 4, long...), func(r *impl.Replica) { r.View, r.High, r.Done = 6, proofFor(long[4], 4), namesOf(long[:1]) })
	b := onHigh(r)
	want := replicaAs(proposed(r, b), func(r *impl.Replica) { r.Locked, r.Done = 4, namesOf(long[:3]) })
	wantProposed(t, "Done", r, nil, want, b, ballotTo(3, voteFor(b, 2)))
}

func TestProposeAtMaxView(t *testing.T) {
	for _, n := range []int64{4, 7} {
		ahead := chainOf(n, mostView-1)
		r := replicaAs(withBlocks(mostView%n, n, ahead...), func(r *impl.Replica) { r.View, r.High = mostView, proofFor(ahead[0], n) })
		b := onHigh(r, "m")
		wantProposed(t, "MaxView", r, b.Moves, proposed(r, b), b, ballotTo((mostView+1)%n, voteFor(b, r.Id)))
	}
}

// A server alone takes at once all that it sends: its Vote is a quorum, and its own News are.
func TestOneServerAlone(t *testing.T) {
	r, _ := impl.NewReplica(0, 1)
	blocks, votes, news := []impl.Block{}, []impl.Vote{}, []impl.News{}
	for view := int64(1); view <= 60; view++ {
		b := onHigh(r, fmt.Sprint("m", view))
		blocks, votes = append(blocks, b), append(votes, voteFor(b, 0))
		want := impl.Replica{N: 1, View: view + 1, Voted: view, Locked: view - 1, Proposed: view, High: proofFor(b, 1), Blocks: blocks, Votes: votes}
		want.Done = namesOf(blocks[:max(view-2, 0)])
		wantProposed(t, fmt.Sprint("View ", view), r, b.Moves, want, b)
		r, _, _ = impl.Propose(r, b.Moves)
	}
	// There is no room any more: it proposes what nobody takes.
	if got, sent, is := impl.Propose(r, nil); !is || len(sent) > 0 || !sameReplica(got, replicaAs(r, func(r *impl.Replica) { r.Proposed = 61 })) {
		t.Errorf("View 61: %s, %s and %v", shortly(got), shortly(sent), is)
	}
	r.Proposed = 61
	refusePropose(t, "View 61 again", r)
	for i := range int64(32) {
		got, sent := impl.Timeout(r)
		if news = append(news, impl.News{View: 62 + i}); len(news) > 30 {
			news = news[:30]
		}
		want := replicaAs(r, func(r *impl.Replica) { r.View, r.News = r.View+1, news })
		if !sameReplica(got, want) || len(sent) > 0 {
			t.Errorf("Timeout %d: %s and %s", i, shortly(got), shortly(sent))
		}
		r = want
		if i >= 30 {
			refusePropose(t, "no News of this View", r, "m")
			continue
		}
		want = replicaAs(r, func(r *impl.Replica) { r.Proposed = r.View })
		if got, sent, is := impl.Propose(r, nil); !is || len(sent) > 0 || !sameReplica(got, want) {
			t.Errorf("View %d: %s, %s and %v", r.View, shortly(got), shortly(sent), is)
		}
	}
	// A View is left out: three in a row are those behind it.
	r, _, _ = impl.Propose(newOf(0, 1), nil)
	r, _ = impl.Timeout(r)
	for i, done := range []int{0, 0, 2, 3, 4} {
		r, _, _ = impl.Propose(r, nil)
		view := int64(i) + 3
		if r.View != view+1 || r.Voted != view || !slices.Equal(r.Done, namesOf(r.Blocks[:done])) {
			t.Errorf("View %d: %s", view, shortly(r))
		}
	}
}

func TestOneServerAloneAtMaxView(t *testing.T) {
	ahead := chainOf(1, mostView-2, mostView-1)
	r := replicaAs(withBlocks(0, 1, ahead...), func(r *impl.Replica) { r.View, r.High = mostView, proofFor(ahead[1], 1) })
	b := onHigh(r, "m")
	want := replicaAs(proposed(r, b), func(r *impl.Replica) {
		r.High, r.Locked, r.Votes, r.Done = proofFor(b, 1), mostView-1, []impl.Vote{voteFor(b, 0)}, namesOf(ahead[:1])
	})
	wantProposed(t, "MaxView alone", r, b.Moves, want, b)
	refusePropose(t, "and once more", want, "m")
}

func TestTimeoutOfForms(t *testing.T) {
	for _, n := range []int64{4, 7} {
		ahead := chainOf(n, 1, 2)
		for id := range n {
			for _, view := range []int64{1, 2, 3, 4, 5, 6, 7, 8, mostView - 3, mostView - 2, mostView - 1} {
				for _, high := range []impl.Proof{{}, proofFor(ahead[0], n), proofForBy(ahead[1], serversTo(n)...)} {
					r := replicaAs(withBlocks(id, n, ahead...), func(r *impl.Replica) {
						r.View, r.High, r.Proposed, r.Voted, r.Locked = view, high, 3, 4, 5
						r.News, r.Votes = newsFor(1, 2), manyVotes(3)
					})
					next := view + 1
					want, wantTo := replicaAs(r, func(r *impl.Replica) { r.View = next }), []impl.Message{newsTo(id, next%n, next, high)}
					if next%n == id {
						want.News, wantTo = append(want.News, impl.News{View: next, From: id}), nil
						// What it sends to itself it takes, and so it is above its own High.
						want.View = max(next, high.View+1)
					}
					got, sent := checkTimeout(t, r)
					if !sameReplica(got, want) || !sameMessages(sent, wantTo) {
						t.Errorf("View %d by %d of %d: %s and %s", view, id, n, shortly(got), shortly(sent))
					}
				}
			}
			r := replicaAs(someReplica(n), func(r *impl.Replica) { r.View, r.Id = mostView, id })
			if got, sent := checkTimeout(t, r); !sameReplica(got, r) || len(sent) > 0 {
				t.Errorf("at MaxView: %s and %s", shortly(got), shortly(sent))
			}
		}
	}
}

// What goes to the server itself is taken: where High tells more than the Replica knows yet, it comes to know it.
func TestTimeoutToItself(t *testing.T) {
	b := chainOf(4, 1, 2, 3, 9)
	for id := range int64(4) {
		for at, p := range map[int]impl.Proof{2: proofFor(b[2], 4), 3: proofFor(b[3], 4)} {
			for view := int64(1); view <= 12; view++ {
				r := replicaAs(withBlocks(id, 4, b...), func(r *impl.Replica) { r.View, r.High = view, p })
				next := view + 1
				want, wantTo := replicaAs(r, func(r *impl.Replica) { r.View = next }), []impl.Message{newsTo(id, next%4, next, p)}
				if next%4 == id {
					want.View, want.Locked, want.News, wantTo = max(next, p.View+1), b[at].Proof.View, []impl.News{{View: next, From: id}}, nil
					if at == 2 {
						want.Done = namesOf(b[:1])
					}
				}
				got, sent := checkTimeout(t, r)
				if !sameReplica(got, want) || !sameMessages(sent, wantTo) {
					t.Errorf("View %d by %d: %s and %s", view, id, shortly(got), shortly(sent))
				}
			}
		}
	}
	for what, news := range map[string][]impl.News{"no room": manyNews(30), "there already": append(manyNews(3), impl.News{View: 5, From: 1})} {
		r := replicaAs(newOf(1, 4), func(r *impl.Replica) { r.View, r.News = 4, news })
		if got, sent := checkTimeout(t, r); !sameReplica(got, replicaAs(r, func(r *impl.Replica) { r.View = 5 })) || len(sent) > 0 {
			t.Errorf("%s: %s and %s", what, shortly(got), shortly(sent))
		}
	}
	r := replicaAs(newOf(1, 4), func(r *impl.Replica) { r.View, r.News = 4, manyNews(29) })
	if got, _ := checkTimeout(t, r); len(got.News) != 30 || got.News[29] != (impl.News{View: 5, From: 1}) {
		t.Errorf("room for one: %s", shortly(got))
	}
}

func TestRestartOfRightReplicas(t *testing.T) {
	for _, n := range someServers {
		for name, r := range rightReplicas(n) {
			want := replicaAs(r, func(r *impl.Replica) { r.Votes, r.News = nil, nil })
			got := checkRestart(t, r)
			if !sameReplica(got, want) || !sameReplica(impl.Restart(got), want) {
				t.Errorf("of %d, %s: %s", n, name, shortly(got))
			}
		}
	}
}

// someMessages are of each Kind, to this server from another one, right and not.
func someMessages(r impl.Replica, n int64) []impl.Message {
	from := (r.Id + 1) % n
	blocks := append(chainOf(n, 1, 2), blockOn(r.High, r.View, n, "m"), impl.Block{})
	if size := len(r.Blocks); size > 0 {
		last := r.Blocks[size-1]
		blocks = append(blocks, last, blockOn(proofFor(last, n), last.View+1, n), blockOn(proofFor(last, n), last.View+2, n))
	}
	list := []impl.Message{{}, {From: from, To: r.Id}, {Kind: 4, From: from, To: r.Id}}
	for i, b := range blocks {
		list = append(list, proposal(from, r.Id, b), impl.Message{Kind: impl.MsVote, From: from, To: r.Id, Vote: voteFor(b, int64(i)%n)})
		list = append(list, newsTo(from, r.Id, int64(i)*n+r.Id, proofFor(b, n)), newsTo(from, r.Id, r.View, impl.Proof{}))
	}
	return list
}

func TestRightReplicasByRule(t *testing.T) {
	for _, n := range someServers {
		for _, r := range rightReplicas(n) {
			for _, m := range someMessages(r, n) {
				checkHear(t, r, m)
			}
			checkPropose(t, r, []string{"m"})
			checkTimeout(t, r)
			checkRestart(t, r)
		}
	}
}

// pick has one of a list, the last ones more often than the first.
func pick[T any](source *rand.Rand, list []T) T {
	return list[max(source.Intn(len(list)), source.Intn(len(list)))]
}

// anyServers are so many of n, rising.
func anyServers(source *rand.Rand, n int64, count int64) []int64 {
	servers := []int64{}
	for _, at := range source.Perm(int(n))[:count] {
		servers = append(servers, int64(at))
	}
	slices.Sort(servers)
	return servers
}

func anyProofFor(source *rand.Rand, b impl.Block, n int64) impl.Proof {
	quorum := quorumByRule(n)
	return proofForBy(b, anyServers(source, n, quorum+source.Int63n(n-quorum+1))...)
}

// anyNext is on one of these, or on the first Proof, a View or some behind it.
func anyNext(source *rand.Rand, blocks []impl.Block, n int64, from int64) impl.Block {
	p, view := impl.Proof{}, from
	if len(blocks) > 0 && source.Intn(6) > 0 {
		b := pick(source, blocks)
		p, view = anyProofFor(source, b, n), b.View
	}
	view = min(view+1+max(0, source.Int63n(6)-3), mostView+source.Int63n(2))
	return blockOn(p, view, n, repeated(fmt.Sprint(source.Intn(4)), source.Intn(3))...)
}

// fewOrMany is mostly a small number, and at times one near the most.
func fewOrMany(source *rand.Rand, most int) int {
	if source.Intn(12) == 0 {
		return most - source.Intn(3)
	}
	return source.Intn(9)
}

// anyLine has a first part of a chain that these Blocks have.
func anyLine(source *rand.Rand, r impl.Replica) []int64 {
	if len(r.Blocks) == 0 || source.Intn(3) == 0 {
		return nil
	}
	names := namesOf((&words{Replica: r}).lineTo(source.Intn(len(r.Blocks))))
	return names[:source.Intn(len(names)+1)]
}

// anyView is near this one, mostly.
func anyView(source *rand.Rand, near int64, least int64) int64 {
	if source.Intn(12) == 0 {
		return []int64{least, 1, mostView - 1, mostView}[source.Intn(4)]
	}
	return min(max(near-3+source.Int63n(7), least), mostView)
}

// anyReplica is right, whether it can come about or not.
func anyReplica(source *rand.Rand, n int64) impl.Replica {
	from := []int64{0, 0, 0, 3, 40, mostView - 9}[source.Intn(6)]
	r := impl.Replica{Id: source.Int63n(n), N: n}
	for tries := fewOrMany(source, 66); tries > 0; tries-- {
		b := anyNext(source, r.Blocks, n, from)
		if len(r.Blocks) < mostBlocks && impl.BlockOk(b, n) && !slices.Contains(namesOf(r.Blocks), impl.Name(b)) {
			r.Blocks = append(r.Blocks, b)
		}
	}
	last := from
	for _, b := range r.Blocks {
		last = max(last, b.View)
	}
	if len(r.Blocks) > 0 && source.Intn(4) > 0 {
		r.High = anyProofFor(source, pick(source, r.Blocks), n)
	}
	r.View, r.Voted = anyView(source, last, 1), anyView(source, last-2, 0)
	r.Locked, r.Proposed = anyView(source, last-4, 0), anyView(source, last-3, 0)
	if source.Intn(3) == 0 {
		r.View = min(r.High.View+1, mostView)
	}
	for range fewOrMany(source, mostVotes) {
		r.Votes = append(r.Votes, anyBallot(source, r, last))
	}
	for range fewOrMany(source, mostNews) {
		r.News = append(r.News, impl.News{View: anyView(source, r.View, 1), From: source.Int63n(n)})
	}
	if source.Intn(3) == 0 {
		r.News = append(newsFor(r.View, source.Int63n(n+1)), r.News[:min(len(r.News), 20)]...)
	}
	r.Done = anyLine(source, r)
	return r
}

// anyBallot is a right Vote, for one of the Blocks mostly.
func anyBallot(source *rand.Rand, r impl.Replica, near int64) impl.Vote {
	if len(r.Blocks) == 0 || source.Intn(5) == 0 {
		return voteOf(source.Int63n(r.N), anyView(source, near, 1), source.Int63n(9))
	}
	b := pick(source, r.Blocks)
	if waited := slices.DeleteFunc(slices.Clone(r.Blocks), func(b impl.Block) bool { return (b.View+1)%r.N != r.Id }); len(waited) > 0 && source.Intn(5) > 0 {
		b = pick(source, waited)
	}
	return voteFor(b, source.Int63n(r.N))
}

// anyMessage is to this server, mostly from another one, and mostly right.
func anyMessage(source *rand.Rand, r impl.Replica) impl.Message {
	near := r.View
	m := impl.Message{Kind: 1 + source.Int63n(3), From: (r.Id + 1 + source.Int63n(max(r.N-1, 1))) % r.N, To: r.Id}
	m.Block = anyNext(source, r.Blocks, r.N, max(0, near-2))
	m.Vote = anyBallot(source, r, near)
	m.View = anyView(source, near, 1)
	if source.Intn(4) > 0 {
		m.View += (r.Id - m.View%r.N + r.N) % r.N
	}
	if len(r.Blocks) > 0 && source.Intn(4) > 0 {
		m.Proof = anyProofFor(source, pick(source, r.Blocks), r.N)
	}
	switch source.Intn(60) {
	case 0:
		m.From = source.Int63n(r.N+3) - 1
	case 1:
		m.To = source.Int63n(r.N+3) - 1
	case 2:
		m.Kind = source.Int63n(7) - 1
	case 3:
		m.View = []int64{0, -r.N + r.Id, mostView, mostView + 1, mostView + r.N}[source.Intn(5)]
	case 4:
		m.Proof = proofForBy(m.Block, anyServers(source, r.N, quorumByRule(r.N))...)
	case 5:
		m.Block.View++
	case 6:
		m.Vote.View++
	case 7:
		m.Proof.View++
	case 8:
		m.Vote.Tag++
	case 9:
		m.Block.By++
	case 10:
		m.Block = blockOn(proofForBy(m.Block, anyServers(source, r.N, quorumByRule(r.N))...), min(m.Block.View+1, mostView), r.N)
	case 11:
		if len(r.Blocks) > 0 {
			m.Block = pick(source, r.Blocks)
		}
	}
	// Only what the Kind tells of stays, mostly.
	if source.Intn(10) > 0 {
		m = alone(m)
	}
	return m
}

// alone has what the Kind tells of and nothing else.
func alone(m impl.Message) impl.Message {
	out := impl.Message{Kind: m.Kind, From: m.From, To: m.To}
	switch m.Kind {
	case impl.MsPropose:
		out.Block = m.Block
	case impl.MsVote:
		out.Vote = m.Vote
	case impl.MsNew:
		out.View, out.Proof = m.View, m.Proof
	}
	return out
}

// Replicas as they may stand anywhere, and one step of each kind from there.
func TestReplicasOfAnyKindByRule(t *testing.T) {
	source := rand.New(rand.NewSource(70))
	counts := map[string]int{}
	count := func(name string, is bool) {
		if is {
			counts[name]++
		}
	}
	for at := range 2000 {
		n := someServers[at%3]
		r := anyReplica(source, n)
		if !impl.ReplicaOk(r) || !replicaByRule(r) {
			t.Fatalf("not right: %s", shortly(r))
		}
		for range 5 {
			m := anyMessage(source, r)
			got, sent := checkHear(t, r, m)
			kind := fmt.Sprint("Kind ", m.Kind)
			count(kind+" changes", !sameReplica(got, r))
			count(kind+" changes nothing", sameReplica(got, r))
			count("votes", len(sent) > 0)
			count("High rises", got.High.View > r.High.View)
			count("High rises by Votes", got.High.View > r.High.View && m.Kind == impl.MsVote)
			count("Locked rises", got.Locked > r.Locked)
			count("Done grows", len(got.Done) > len(r.Done))
			count("a Block, no Vote", len(got.Blocks) > len(r.Blocks) && got.Voted == r.Voted)
			count("a full one", len(r.Blocks) == mostBlocks)
		}
		got, _, is := checkPropose(t, r, repeated("m", source.Intn(12)))
		count("proposes", is)
		count("proposes, not taken", is && len(got.Blocks) == len(r.Blocks))
		count("proposes not", !is && r.View%n == r.Id)
		_, sent := checkTimeout(t, r)
		count("Timeout to others", len(sent) > 0)
		count("Timeout to itself", len(sent) == 0)
		checkRestart(t, r)
	}
	for _, name := range []string{"Kind 1 changes", "Kind 1 changes nothing", "Kind 2 changes", "Kind 2 changes nothing", "Kind 3 changes", "Kind 3 changes nothing", "votes", "High rises", "High rises by Votes", "Locked rises", "Done grows", "a Block, no Vote", "a full one", "proposes", "proposes, not taken", "proposes not", "Timeout to others", "Timeout to itself"} {
		if counts[name] < 5 {
			t.Errorf("%s: %d", name, counts[name])
		}
	}
	if testing.Verbose() {
		t.Log(counts)
	}
}

// step is one that a Replica may take: what it is called, and what becomes of the Replica.
type step struct {
	name string
	take func(*testing.T, impl.Replica) impl.Replica
}

func hearing(name string, m impl.Message) step {
	return step{name, func(t *testing.T, r impl.Replica) impl.Replica {
		t.Helper()
		got, _ := checkHear(t, r, m)
		return got
	}}
}

// byItself are the steps for which nothing has to come.
func byItself() []step {
	return []step{
		{"propose", func(t *testing.T, r impl.Replica) impl.Replica {
			got, _, _ := checkPropose(t, r, []string{"m"})
			return got
		}},
		{"timeout", func(t *testing.T, r impl.Replica) impl.Replica {
			got, _ := checkTimeout(t, r)
			return got
		}},
		{"restart", checkRestart},
	}
}

// takeAll goes through all scripts of so many of these steps, and tells how many Replicas there were, each time anew.
func takeAll(t *testing.T, r impl.Replica, steps []step, length int) int {
	count := 1
	if length > 0 {
		for _, x := range steps {
			count += takeAll(t, x.take(t, r), steps, length-1)
		}
	}
	return count
}

func TestReplicasByAllShortScripts(t *testing.T) {
	b := chainOf(4, 1, 2, 3, 4)
	other := blockOn(impl.Proof{}, 1, 4, "other")
	steps := append(byItself(),
		hearing("Block 1", proposal(1, 2, b[0])),
		hearing("another one of View 1", proposal(1, 2, other)),
		hearing("Block 2", proposal(1, 2, b[1])),
		hearing("Block 3", proposal(3, 2, b[2])),
		hearing("Vote of 0", ballotTo(2, voteFor(b[0], 0))),
		hearing("Vote of 1", ballotTo(2, voteFor(b[0], 1))),
		hearing("Vote of 3", ballotTo(2, voteFor(b[0], 3))),
		hearing("News of 0", newsTo(0, 2, 2, impl.Proof{})),
		hearing("News of 3, with a Proof", newsTo(3, 2, 2, proofFor(b[0], 4))),
		hearing("News of 1, with a Proof of View 3", newsTo(1, 2, 6, proofFor(b[2], 4))),
	)
	if got := takeAll(t, newOf(2, 4), steps, 4); got != 1+13+13*13+13*13*13+13*13*13*13 {
		t.Fatal(got)
	}
	// From where three in a row are there but for what proves them.
	ready := replicaAs(withBlocks(0, 4, b[:3]...), func(r *impl.Replica) { r.Votes = votesOf(3, impl.Name(b[2]), 1) })
	steps = append(byItself(),
		hearing("Vote of 2", ballotTo(0, voteFor(b[2], 2))),
		hearing("Vote of 3", ballotTo(0, voteFor(b[2], 3))),
		hearing("a Proof of View 2", newsTo(3, 0, 4, proofFor(b[1], 4))),
		hearing("a Proof of View 3", newsTo(1, 0, 4, proofForBy(b[2], 1, 2, 3))),
		hearing("Block 4", proposal(0, 0, b[3])),
		hearing("Block 4 from another one", proposal(2, 0, b[3])),
		hearing("a Block that parts", proposal(1, 0, blockOn(proofFor(b[0], 4), 5, 4))),
	)
	takeAll(t, ready, steps, 4)
}

func TestOneServerAloneByAllShortScripts(t *testing.T) {
	r := withBlocks(0, 1, chainOf(1, 1, 2)...)
	steps := append(byItself(), hearing("a Block of nobody", proposal(0, 0, chainOf(1, 1)[0])))
	for _, start := range []impl.Replica{newOf(0, 1), r, replicaAs(r, func(r *impl.Replica) { r.View = mostView - 2 })} {
		takeAll(t, start, steps, 6)
	}
}

// drill is some servers and what is under way among them.
type drill struct {
	servers []impl.Replica
	net     []impl.Message
}

func drillOf(n int64) *drill {
	d := &drill{}
	for id := range n {
		d.servers = append(d.servers, newOf(id, n))
	}
	return d
}

func (d *drill) goes(id int64, r impl.Replica, sent []impl.Message) {
	d.servers[id] = r
	d.net = append(d.net, sent...)
}

// deliver hands over a message, one of the first ones mostly, and once more at times.
func (d *drill) deliver(t *testing.T, source *rand.Rand, twice int) {
	at := min(source.Intn(len(d.net)), source.Intn(len(d.net)))
	m := d.net[at]
	if source.Intn(100) >= twice {
		d.net = slices.Delete(d.net, at, at+1)
	}
	r, sent := checkHear(t, d.servers[m.To], m)
	d.goes(m.To, r, sent)
}

// step does what one of the servers may do by itself; restarts and such are seldom.
func (d *drill) step(t *testing.T, source *rand.Rand) {
	id := source.Int63n(int64(len(d.servers)))
	switch source.Intn(12) {
	case 0:
		r, sent := checkTimeout(t, d.servers[id])
		d.goes(id, r, sent)
	case 1:
		if source.Intn(4) == 0 {
			d.goes(id, checkRestart(t, d.servers[id]), nil)
		}
	default:
		r, sent, _ := checkPropose(t, d.servers[id], repeated("m", source.Intn(3)))
		d.goes(id, r, sent)
	}
}

// anyone may propose: whoever is due does.
func (d *drill) propose(t *testing.T) {
	for id, r := range d.servers {
		got, sent, is := checkPropose(t, r, []string{fmt.Sprint("by ", id)})
		if is {
			d.goes(int64(id), got, sent)
		}
	}
}

func wantAlike(t *testing.T, servers []impl.Replica) {
	t.Helper()
	for _, a := range servers {
		for _, b := range servers {
			size := min(len(a.Done), len(b.Done))
			if !slices.Equal(a.Done[:size], b.Done[:size]) {
				t.Fatalf("of %d, %v and %v part", a.N, a.Done, b.Done)
			}
		}
	}
}

// Where all is delivered, each View has its Block, and all but the last ones are Done everywhere, until there is no room.
func TestReplicasWhereAllIsDelivered(t *testing.T) {
	for _, n := range someServers {
		d := drillOf(n)
		for view := int64(1); view <= 62; view++ {
			d.propose(t)
			for len(d.net) > 0 {
				m := d.net[0]
				d.net = d.net[1:]
				r, sent := checkHear(t, d.servers[m.To], m)
				d.goes(m.To, r, sent)
			}
			for _, r := range d.servers {
				known := min(view, mostBlocks)
				done := known - 3
				// Whose turn is next has the Votes for the last one already.
				if (known+1)%n == r.Id {
					done++
				}
				if r.Voted != known || int64(len(r.Blocks)) != known || int64(len(r.Done)) != max(0, done) {
					t.Fatalf("View %d of %d: %s", view, n, shortly(r))
				}
			}
			wantAlike(t, d.servers)
			// Of seven servers one gets 63 Votes in nine turns, and so can't keep those of all.
			if view == 28 {
				for id, r := range d.servers {
					d.servers[id] = checkRestart(t, r)
				}
			}
		}
	}
}

// Long drawn runs in which messages come late, twice or never, and servers run out of time or begin anew.
func TestReplicasByLongRuns(t *testing.T) {
	source := rand.New(rand.NewSource(71))
	done, full := 0, 0
	for at := range 36 {
		d := drillOf(someServers[at%3])
		twice, lost := []int{0, 10, 40}[source.Intn(3)], []int{0, 5, 20}[source.Intn(3)]
		for range 260 {
			if len(d.net) > 0 && source.Intn(100) < lost {
				at := source.Intn(len(d.net))
				d.net = slices.Delete(d.net, at, at+1)
			}
			if len(d.net) > 0 && source.Intn(5) > 0 {
				d.deliver(t, source, twice)
			} else {
				d.step(t, source)
			}
		}
		wantAlike(t, d.servers)
		for _, r := range d.servers {
			done += len(r.Done)
			full += len(r.Blocks) / mostBlocks
		}
	}
	if testing.Verbose() {
		t.Log(done, full)
	}
	if done < 100 {
		t.Fatal(done)
	}
}

// Long drawn runs of one server to which anything may come, signed by whomever: it stays right, and nothing falls.
func TestReplicasAmongLiars(t *testing.T) {
	source := rand.New(rand.NewSource(72))
	done, high, full := 0, 0, 0
	for at := range 40 {
		n := someServers[1+at%2]
		r := newOf(source.Int63n(n), n)
		if at%3 == 0 {
			r = anyReplica(source, n)
		}
		steps := byItself()
		for range 140 {
			before := r
			if source.Intn(9) > 0 {
				r, _ = checkHear(t, r, anyMessage(source, r))
			} else {
				r = steps[source.Intn(len(steps))].take(t, r)
			}
			if r.High.View > before.High.View {
				high++
			}
		}
		done += len(r.Done)
		full += len(r.Blocks) / mostBlocks
	}
	if testing.Verbose() {
		t.Log(done, high, full)
	}
	if done < 100 || high < 100 || full < 1 {
		t.Fatal(done, high, full)
	}
}

// replicaArguments are those of all functions of the chapter.
type replicaArguments struct {
	Replica impl.Replica
	Message impl.Message
	Moves   []string
}

func roomyBlock(b impl.Block) impl.Block {
	b.Proof, b.Moves = roomyProof(b.Proof), roomy(b.Moves, "behind", sized(61))
	return b
}

func tightBlock(b impl.Block) impl.Block {
	b.Proof, b.Moves = tightProof(b.Proof), slices.Clip(slices.Clone(b.Moves))
	return b
}

// roomyReplica has behind its lists what might come to them next.
func roomyReplica(r impl.Replica) impl.Replica {
	r = replicaClone(r)
	blocks := append(slices.Clone(r.Blocks), manyBlocks(max(r.N, 1), 2, 3)...)
	for i, b := range blocks {
		blocks[i] = roomyBlock(b)
	}
	r.Blocks, r.High = blocks[:len(r.Blocks)], roomyProof(r.High)
	r.Votes = roomy(r.Votes, votesOf(6, 5, 0, 1, 2, 3, 4, 5, 6)...)
	r.News = roomy(r.News, newsFor(max(r.View, 1), 7)...)
	r.Done = roomy(r.Done, append(namesOf(r.Blocks), 0, -1)...)
	return r
}

func tightReplica(r impl.Replica) impl.Replica {
	r = replicaClone(r)
	for i, b := range r.Blocks {
		r.Blocks[i] = tightBlock(b)
	}
	r.Blocks, r.High = slices.Clip(r.Blocks), tightProof(r.High)
	r.Votes, r.News, r.Done = slices.Clip(r.Votes), slices.Clip(r.News), slices.Clip(r.Done)
	return r
}

func (x replicaArguments) roomy() replicaArguments {
	x.Replica, x.Moves = roomyReplica(x.Replica), roomy(x.Moves, "behind", sized(61))
	x.Message.Block, x.Message.Proof = roomyBlock(x.Message.Block), roomyProof(x.Message.Proof)
	return x
}

func (x replicaArguments) tight() replicaArguments {
	x.Replica, x.Moves = tightReplica(x.Replica), slices.Clip(slices.Clone(x.Moves))
	x.Message.Block, x.Message.Proof = tightBlock(x.Message.Block), tightProof(x.Message.Proof)
	return x
}

// replicaAnswers are all functions of the chapter.
func replicaAnswers() map[string]func(replicaArguments) any {
	type answer struct {
		Replica impl.Replica
		Sent    []impl.Message
		Is      bool
	}
	return map[string]func(replicaArguments) any{
		"ReplicaOk": func(x replicaArguments) any { return impl.ReplicaOk(x.Replica) },
		"NewReplica": func(x replicaArguments) any {
			r, is := impl.NewReplica(x.Replica.Id, x.Replica.N)
			return answer{r, nil, is}
		},
		"Propose": func(x replicaArguments) any {
			r, sent, is := impl.Propose(x.Replica, x.Moves)
			return answer{r, sent, is}
		},
		"Hear": func(x replicaArguments) any {
			r, sent := impl.Hear(x.Replica, x.Message)
			return answer{r, sent, true}
		},
		"Timeout": func(x replicaArguments) any {
			r, sent := impl.Timeout(x.Replica)
			return answer{r, sent, true}
		},
		"Restart": func(x replicaArguments) any { return impl.Restart(x.Replica) },
	}
}

// replicaCases goes through the functions, with Replicas that are right and not, messages of all Kinds, and turns of one's own.
func replicaCases(with func(name string, x replicaArguments, answer func(replicaArguments) any)) {
	source := rand.New(rand.NewSource(73))
	answers := replicaAnswers()
	all := func(name string, r impl.Replica, messages ...impl.Message) {
		x := replicaArguments{Replica: r, Moves: repeated("m", source.Intn(4))}
		for what, answer := range answers {
			if what != "Hear" {
				with(name+": "+what, x, answer)
			}
		}
		for i, m := range messages {
			x.Message = m
			with(fmt.Sprint(name, ": Hear ", i), x, answers["Hear"])
		}
	}
	for _, n := range someServers {
		for name, r := range rightReplicas(n) {
			all(fmt.Sprint("right of ", n, ": ", name), r, anyMessage(source, r), anyMessage(source, r))
		}
		for name, r := range wrongReplicas(n) {
			if source.Intn(8) == 0 {
				all(fmt.Sprint("wrong of ", n, ": ", name), r, anyMessage(source, someReplica(n)))
			}
		}
		b := chainOf(n, 1, 2, 3, 4, 5)
		for id := range n {
			known := withBlocks(id, n, b...)
			name := fmt.Sprint("server ", id, " of ", n)
			due := replicaAs(known, func(r *impl.Replica) { r.View, r.High, r.Done = 6, proofFor(b[4], n), namesOf(b[:1]) })
			due.Votes = votesOf(5, impl.Name(b[4]), serversTo(n)[:quorumByRule(n)-1]...)
			from, last := (id+1)%n, voteFor(b[4], quorumByRule(n)-1)
			all(name, due, newsTo(from, id, 6, due.High), impl.Message{Kind: impl.MsVote, From: from, To: id, Vote: last})
			low := replicaAs(due, func(r *impl.Replica) { r.View, r.High = 1, impl.Proof{} })
			all(name+", low", low, newsTo(from, id, 6, due.High), impl.Message{Kind: impl.MsVote, From: from, To: id, Vote: last})
			low.Blocks, low.Votes = b[:4], nil
			all(name+", waiting", low, proposal(from, id, b[4]), proposal(from, id, b[3]))
			all(name+", new", newOf(id, n), proposal(from, id, b[0]), newsTo(from, id, n+id, impl.Proof{}))
		}
	}
	for at := range 60 {
		r := anyReplica(source, someServers[at%3])
		all(fmt.Sprint("any ", at), r, anyMessage(source, r), anyMessage(source, r))
	}
}

func TestReplicasLeaveTheirArguments(t *testing.T) {
	replicaCases(func(name string, x replicaArguments, answer func(replicaArguments) any) {
		wantLeft(t, name, x, answer)
	})
}

func TestReplicasGiveNewMemory(t *testing.T) {
	replicaCases(func(name string, x replicaArguments, answer func(replicaArguments) any) {
		wantNewMemory(t, name, x, answer)
	})
}

// What is written into an answer is in no other list of it, nor in what was given, nor in what is answered later.
func TestReplicasApartFromTheirAnswers(t *testing.T) {
	b := chainOf(4, 1, 2, 3, 4, 5)
	moves := []string{"m", "n"}
	given := replicaAs(withBlocks(2, 4, b...), func(r *impl.Replica) { r.View, r.High = 6, proofFor(b[4], 4) })
	before := replicaClone(given)
	want, wantTo, _ := proposeByRule(given, moves)
	got, sent, _ := impl.Propose(given, moves)
	for i, m := range sent[:3] {
		spoil(m.Block.Proof.By, -7)
		spoil(m.Block.Proof.Tags, -7)
		spoil(m.Block.Moves, "spoilt")
		if !sameReplica(got, want) || !sameMessages(sent[i+1:], wantTo[i+1:]) {
			t.Fatalf("Message %d lies in what else is answered", i)
		}
	}
	spoil(got.High.By, -7)
	spoil(got.High.Tags, -7)
	if !sameBlock(got.Blocks[5], want.Blocks[5]) || !slices.Equal(got.Done, want.Done) {
		t.Error("High lies in what else is answered")
	}
	spoil(got.Done, -7)
	spoil(got.Blocks[5].Moves, "spoilt")
	spoil(got.Blocks, impl.Block{})
	if !sameReplica(given, before) || !slices.Equal(moves, []string{"m", "n"}) {
		t.Error("an argument was changed")
	}
	if again, _, _ := impl.Propose(given, moves); !sameReplica(again, want) {
		t.Error("an answer that was changed is answered again")
	}
	m := newsTo(3, 2, 6, proofFor(b[3], 4))
	low := withBlocks(2, 4, b...)
	got, _ = impl.Hear(low, m)
	spoil(got.High.By, -7)
	spoil(got.High.Tags, -7)
	if !sameProof(m.Proof, proofFor(b[3], 4)) || !sameBlock(got.Blocks[4], b[4]) {
		t.Error("High is the message's")
	}
	block := proposal(1, 2, blockOn(proofFor(b[4], 4), 6, 4, "m"))
	got, _ = impl.Hear(low, block)
	spoil(got.Blocks[5].Moves, "spoilt")
	spoil(got.Blocks[5].Proof.By, -7)
	spoil(got.Blocks[5].Proof.Tags, -7)
	if !sameBlock(block.Block, blockOn(proofFor(b[4], 4), 6, 4, "m")) || !sameProof(got.High, proofFor(b[4], 4)) {
		t.Error("a Block is the message's, or High is the Block's")
	}
}

// What is behind a list is no part of it, be it what is missing or what is wrong.
func TestReplicasKeepOutOfTheSpareRoom(t *testing.T) {
	for _, n := range someServers {
		b := chainOf(n, 1, 2, 3)
		r := withBlocks(0, n, b...)
		r.Blocks, r.High = r.Blocks[:1], proofFor(b[1], n)
		if impl.ReplicaOk(r) {
			t.Error("High is of a Block in the room")
		}
		r.High, r.Done = impl.Proof{}, namesOf(b[:2])
		if impl.ReplicaOk(r) {
			t.Error("Done is in the room")
		}
		r.Done = r.Done[:1]
		r.Votes = append(manyVotes(60), impl.Vote{})[:60]
		r.News = append(manyNews(30), impl.News{})[:30]
		if !impl.ReplicaOk(r) {
			t.Error("what is wrong is in the room")
		}
	}
	b := chainOf(4, 1)
	r := replicaAs(withBlocks(2, 4, b...), func(r *impl.Replica) { r.Votes = votesOf(1, impl.Name(b[0]), 0, 1, 3)[:1] })
	wantHeard(t, "Votes in the room", r, ballotTo(2, voteFor(b[0], 3)), replicaAs(r, func(r *impl.Replica) { r.Votes = append(r.Votes, voteFor(b[0], 3)) }))
	r = replicaAs(newOf(3, 4), func(r *impl.Replica) { r.View, r.News = 7, newsFor(7, 4)[:2] })
	refusePropose(t, "News in the room", r, "m")
}
