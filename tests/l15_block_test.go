package tests

import (
	"encoding/binary"
	"fmt"
	"math"
	"math/rand"
	"slices"
	"strings"
	"testing"

	"loop.example/g00217/impl"
)

// The numbers of the document, written out again.
const mostView = 100000
const mostName = 2147483646
const mostServers = 7
const mostMoves = 10
const mostMoveText = 60

// How many servers there may be, and some numbers of which there may not be.
var someServers = []int64{1, 4, 7}
var noServers = []int64{0, -1, 2, 3, 5, 6, 8, 9, 10, 13, -4, -7, 1<<32 + 1, 1<<32 + 4, 1<<32 + 7, math.MinInt64, math.MinInt64 + 4, math.MaxInt64}

// Numbers that no View, Name, server or count can be.
var farNumbers = []int64{math.MinInt64, math.MinInt64 + 1, -1 << 32, 1<<32 + 1, math.MaxInt64}

// ballotTag is worked out from the text of the ballot, in range or not.
func ballotTag(server int64, view int64, name int64) int64 {
	return bigDigest("secret" + decimal(server) + "/vote " + decimal(view) + " " + decimal(name))
}

// voteOf has the Tag of the ballot, in range or not.
func voteOf(server int64, view int64, name int64) impl.Vote {
	return impl.Vote{View: view, Name: name, By: server, Tag: ballotTag(server, view, name)}
}

func votesOf(view int64, name int64, servers ...int64) []impl.Vote {
	list := []impl.Vote{}
	for _, server := range servers {
		list = append(list, voteOf(server, view, name))
	}
	return list
}

// proofOf has these servers as they stand there, and the Tags of the ballot, in range or not.
func proofOf(view int64, name int64, servers ...int64) impl.Proof {
	p := impl.Proof{View: view, Name: name}
	for _, v := range votesOf(view, name, servers...) {
		p.By, p.Tags = append(p.By, v.By), append(p.Tags, v.Tag)
	}
	return p
}

// blockOn has this Proof ahead of it, and what follows from that.
func blockOn(p impl.Proof, view int64, n int64, moves ...string) impl.Block {
	return impl.Block{View: view, Parent: p.Name, Proof: p, Moves: moves, By: view % n}
}

func proofClone(p impl.Proof) impl.Proof {
	p.By, p.Tags = slices.Clone(p.By), slices.Clone(p.Tags)
	return p
}

func blockClone(b impl.Block) impl.Block {
	b.Proof, b.Moves = proofClone(b.Proof), slices.Clone(b.Moves)
	return b
}

func sameProof(a impl.Proof, b impl.Proof) bool {
	return a.View == b.View && a.Name == b.Name && slices.Equal(a.By, b.By) && slices.Equal(a.Tags, b.Tags)
}

func sameBlock(a impl.Block, b impl.Block) bool {
	return a.View == b.View && a.Parent == b.Parent && sameProof(a.Proof, b.Proof) && slices.Equal(a.Moves, b.Moves) && a.By == b.By
}

// serversTo has all servers below n.
func serversTo(n int64) []int64 {
	list := []int64{}
	for server := range n {
		list = append(list, server)
	}
	return list
}

func quorumByRule(n int64) int64 {
	switch n {
	case 1:
		return 1
	case 4:
		return 3
	case 7:
		return 5
	}
	return -1
}

func inRange(n int64, from int64, to int64) bool {
	return n >= from && n <= to
}

func votedByRule(server int64, view int64, name int64) impl.Vote {
	if !inRange(server, 0, 6) || !inRange(view, 1, mostView) || !inRange(name, 0, mostName) {
		return impl.Vote{}
	}
	return voteOf(server, view, name)
}

func voteByRule(v impl.Vote, n int64) bool {
	if quorumByRule(n) < 0 || !inRange(v.By, 0, n-1) || !inRange(v.View, 1, mostView) || !inRange(v.Name, 0, mostName) {
		return false
	}
	return v.Tag == ballotTag(v.By, v.View, v.Name)
}

func proofByRule(p impl.Proof, n int64) bool {
	if quorumByRule(n) < 0 {
		return false
	}
	if sameProof(p, impl.Proof{}) {
		return true
	}
	if len(p.By) != len(p.Tags) || int64(len(p.By)) < quorumByRule(n) {
		return false
	}
	for i, server := range p.By {
		if i > 0 && server <= p.By[i-1] || !voteByRule(impl.Vote{View: p.View, Name: p.Name, By: server, Tag: p.Tags[i]}, n) {
			return false
		}
	}
	return true
}

// gatheredByRule keeps the first of each server, and sorts them.
func gatheredByRule(list []impl.Vote, n int64) (impl.Proof, bool) {
	kept := []impl.Vote{}
	for _, v := range list {
		isThere := slices.ContainsFunc(kept, func(other impl.Vote) bool { return other.By == v.By })
		if voteByRule(v, n) && v.View == list[0].View && v.Name == list[0].Name && !isThere {
			kept = append(kept, v)
		}
	}
	if len(kept) == 0 || int64(len(kept)) < quorumByRule(n) {
		return impl.Proof{}, false
	}
	slices.SortFunc(kept, func(a impl.Vote, b impl.Vote) int { return int(a.By - b.By) })
	p := impl.Proof{View: list[0].View, Name: list[0].Name}
	for _, v := range kept {
		p.By, p.Tags = append(p.By, v.By), append(p.Tags, v.Tag)
	}
	return p, true
}

func blockByRule(b impl.Block, n int64) bool {
	if !proofByRule(b.Proof, n) || !inRange(b.View, 1, mostView) || b.Proof.View >= b.View || b.Parent != b.Proof.Name {
		return false
	}
	for _, text := range b.Moves {
		if len(text) > mostMoveText {
			return false
		}
	}
	return len(b.Moves) <= mostMoves && b.By == b.View%n
}

// blockNumbers are all that ShowBlock writes, but for counts, in the order in which it does.
func blockNumbers(b impl.Block) ([]int64, bool) {
	if len(b.Proof.By) != len(b.Proof.Tags) {
		return nil, false
	}
	list := []int64{b.View, b.Parent, b.Proof.View, b.Proof.Name}
	for i := range b.Proof.By {
		list = append(list, b.Proof.By[i], b.Proof.Tags[i])
	}
	return append(list, b.By), true
}

func showBlockByRule(b impl.Block) string {
	numbers, is := blockNumbers(b)
	if !is || !between(numbers, most) || len(b.Proof.By) > mostServers || len(b.Moves) > 200 {
		return ""
	}
	data := []byte{}
	for i, n := range numbers[:len(numbers)-1] {
		if i == 4 {
			data = binary.AppendUvarint(data, uint64(len(b.Proof.By)))
		}
		data = binary.AppendUvarint(data, uint64(n))
	}
	if len(numbers) == 5 {
		data = append(data, 0)
	}
	data = binary.AppendUvarint(data, uint64(len(b.Moves)))
	for _, text := range b.Moves {
		if len(text) > 3000 {
			return ""
		}
		data = append(binary.AppendUvarint(data, uint64(len(text))), text...)
	}
	return string(binary.AppendUvarint(data, uint64(numbers[len(numbers)-1])))
}

// readBlockByRule reads more than there may be, and asks showBlockByRule whether it was written so.
func readBlockByRule(s string) (impl.Block, bool) {
	rest, ok := []byte(s), true
	number := func() int64 {
		n, size := binary.Uvarint(rest)
		if size <= 0 || n > 1<<50 {
			ok = false
			return 0
		}
		rest = rest[size:]
		return int64(n)
	}
	b := impl.Block{View: number(), Parent: number()}
	b.Proof.View, b.Proof.Name = number(), number()
	for count := number(); ok && count > 0; count-- {
		b.Proof.By = append(b.Proof.By, number())
		b.Proof.Tags = append(b.Proof.Tags, number())
	}
	for count := number(); ok && count > 0; count-- {
		size := number()
		if !ok || size > int64(len(rest)) {
			return impl.Block{}, false
		}
		b.Moves, rest = append(b.Moves, string(rest[:size])), rest[size:]
	}
	b.By = number()
	if !ok || len(rest) > 0 || showBlockByRule(b) != s {
		return impl.Block{}, false
	}
	return b, true
}

func blockNameByRule(b impl.Block) int64 {
	text := showBlockByRule(b)
	if text == "" {
		return -1
	}
	if name := bigDigest(text); name != 0 {
		return name
	}
	return 1
}

// rightProofs are those of n servers.
func rightProofs(n int64) map[string]impl.Proof {
	all, quorum := serversTo(n), quorumByRule(n)
	return map[string]impl.Proof{
		"the first one":                  {},
		"the first one, of empty lists":  {By: []int64{}, Tags: []int64{}},
		"a quorum of the first":          proofOf(6, 5, all[:quorum]...),
		"a quorum of the last":           proofOf(6, 5, all[n-quorum:]...),
		"all":                            proofOf(6, 5, all...),
		"View 1":                         proofOf(1, 5, all[:quorum]...),
		"View MaxView - 1":               proofOf(mostView-1, 5, all[:quorum]...),
		"View MaxView":                   proofOf(mostView, 5, all[:quorum]...),
		"Name 0":                         proofOf(6, 0, all[:quorum]...),
		"Name 1":                         proofOf(6, 1, all...),
		"Name 2147483645":                proofOf(6, mostName-1, all...),
		"Name 2147483646":                proofOf(6, mostName, all[:quorum]...),
		"View 1 and Name 0":              proofOf(1, 0, all...),
		"View MaxView, Name at the most": proofOf(mostView, mostName, all...),
	}
}

// wrongProofs fail in one way each, as far as may be.
func wrongProofs(n int64) map[string]impl.Proof {
	all, quorum := serversTo(n), int(quorumByRule(n))
	some := proofOf(6, 5, all[:quorum]...)
	with := func(change func(*impl.Proof)) impl.Proof {
		p := proofClone(some)
		change(&p)
		return p
	}
	proofs := map[string]impl.Proof{
		"one less than a quorum":         proofOf(6, 5, all[:quorum-1]...),
		"one less, of the last":          proofOf(6, 5, all[len(all)-quorum+1:]...),
		"nobody, View 6":                 {View: 6},
		"nobody, Name 5":                 {Name: 5},
		"nobody, View and Name":          {View: 6, Name: 5},
		"nobody, View -1":                {View: -1},
		"nobody, Name -1":                {Name: -1},
		"the first one, of all":          {By: all, Tags: make([]int64, len(all))},
		"the first one, with a Tag":      {Tags: []int64{0}},
		"the first one, with a server":   {By: []int64{0}},
		"View 0":                         proofOf(0, 5, all...),
		"View 0 and Name 0":              proofOf(0, 0, all...),
		"View -1":                        proofOf(-1, 5, all...),
		"View MaxView + 1":               proofOf(mostView+1, 5, all...),
		"Name -1":                        proofOf(6, -1, all...),
		"Name 2147483647":                proofOf(6, mostName+1, all...),
		"Name 2147483648":                proofOf(6, mostName+2, all...),
		"all, and the first once more":   proofOf(6, 5, append(all, 0)...),
		"all, and one past them":         proofOf(6, 5, serversTo(n+1)...),
		"one past them for the last one": proofOf(6, 5, append(slices.Clone(all[:quorum-1]), n)...),
		"one far past them":              proofOf(6, 5, append(slices.Clone(all), math.MaxInt64)...),
		"-1 ahead of all":                proofOf(6, 5, append([]int64{-1}, all...)...),
		"no server, for all":             proofOf(6, 5, slices.Repeat([]int64{-1}, quorum)...),
		"the last one twice":             proofOf(6, 5, append(slices.Clone(all), n-1)...),
		"the first one twice":            proofOf(6, 5, append([]int64{0}, all...)...),
		"the first one 100 times":        proofOf(6, 5, make([]int64, 100)...),
	}
	if n > 1 {
		proofs["one less, one of them twice"] = proofOf(6, 5, append([]int64{0}, all[:quorum-1]...)...)
	}
	for at := range quorum {
		last := (at + 1) % quorum
		proofs[fmt.Sprint("a Tag more, at ", at)] = with(func(p *impl.Proof) { p.Tags[at]++ })
		proofs[fmt.Sprint("a Tag less, at ", at)] = with(func(p *impl.Proof) { p.Tags[at]-- })
		proofs[fmt.Sprint("Tag 0 at ", at)] = with(func(p *impl.Proof) { p.Tags[at] = 0 })
		proofs[fmt.Sprint("Tag -1 at ", at)] = with(func(p *impl.Proof) { p.Tags[at] = -1 })
		proofs[fmt.Sprint("a Tag of another View at ", at)] = with(func(p *impl.Proof) { p.Tags[at] = ballotTag(p.By[at], 7, 5) })
		proofs[fmt.Sprint("a Tag of another Name at ", at)] = with(func(p *impl.Proof) { p.Tags[at] = ballotTag(p.By[at], 6, 4) })
		proofs[fmt.Sprint("another one's Tag at ", at)] = with(func(p *impl.Proof) { p.Tags[at] = ballotTag(p.By[at]+1, 6, 5) })
		proofs[fmt.Sprint("no ballot's Tag at ", at)] = with(func(p *impl.Proof) { p.Tags[at] = impl.Tag(p.By[at], "6 5") })
		proofs[fmt.Sprint("another server, not its Tag, at ", at)] = with(func(p *impl.Proof) { p.By[at] += n })
		proofs[fmt.Sprint("server -1 at ", at)] = with(func(p *impl.Proof) { p.By[at], p.Tags[at] = -1, -1 })
		proofs[fmt.Sprint("server 7 at ", at)] = with(func(p *impl.Proof) { p.By[at], p.Tags[at] = 7, -1 })
		proofs[fmt.Sprint("without server ", at)] = with(func(p *impl.Proof) { p.By = slices.Delete(p.By, at, at+1) })
		proofs[fmt.Sprint("without Tag ", at)] = with(func(p *impl.Proof) { p.Tags = slices.Delete(p.Tags, at, at+1) })
		proofs[fmt.Sprint("without number ", at)] = with(func(p *impl.Proof) {
			p.By, p.Tags = slices.Delete(p.By, at, at+1), slices.Delete(p.Tags, at, at+1)
		})
		if last != at {
			proofs[fmt.Sprint("Tags change places at ", at)] = with(func(p *impl.Proof) { p.Tags[at], p.Tags[last] = p.Tags[last], p.Tags[at] })
			proofs[fmt.Sprint("both change places at ", at)] = with(func(p *impl.Proof) {
				p.By[at], p.By[last] = p.By[last], p.By[at]
				p.Tags[at], p.Tags[last] = p.Tags[last], p.Tags[at]
			})
		}
	}
	proofs["a Tag too many"] = with(func(p *impl.Proof) { p.Tags = append(p.Tags, 0) })
	proofs["the next one's Tag, but not it"] = with(func(p *impl.Proof) { p.Tags = append(p.Tags, ballotTag(int64(quorum), 6, 5)) })
	proofs["a server too many"] = with(func(p *impl.Proof) { p.By = append(p.By, int64(quorum)) })
	proofs["no Tags"] = with(func(p *impl.Proof) { p.Tags = nil })
	proofs["no servers"] = with(func(p *impl.Proof) { p.By = nil })
	proofs["View one more"] = with(func(p *impl.Proof) { p.View++ })
	proofs["View one less"] = with(func(p *impl.Proof) { p.View-- })
	proofs["Name one more"] = with(func(p *impl.Proof) { p.Name++ })
	proofs["Name one less"] = with(func(p *impl.Proof) { p.Name-- })
	for _, far := range farNumbers {
		proofs[fmt.Sprint("View ", far)] = proofOf(far, 5, all...)
		proofs[fmt.Sprint("Name ", far)] = proofOf(6, far, all...)
	}
	return proofs
}

func rightVotes(n int64) []impl.Vote {
	list := []impl.Vote{}
	for _, server := range serversTo(n) {
		for _, view := range []int64{1, 2, 6, 99999, mostView} {
			for _, name := range []int64{0, 1, 5, 99999, mostName - 1, mostName} {
				list = append(list, voteOf(server, view, name))
			}
		}
	}
	return list
}

// wrongVotes fail in one way each, as far as may be.
func wrongVotes(n int64) []impl.Vote {
	list := []impl.Vote{{}, {Tag: -1}, {View: 6, Name: 5}, {View: 6, Name: 5, Tag: -1}, {View: 6, Name: 5, By: -1, Tag: -1}, {View: 6, Name: 5, By: 7, Tag: -1}}
	list = append(list, votesOf(6, 5, n, n+1, 7, 8, -1, -2, -n)...)
	for _, far := range farNumbers {
		list = append(list, voteOf(far, 6, 5), voteOf(0, far, 5), voteOf(0, 6, far))
		v := voteOf(0, 6, 5)
		v.Tag = far
		list = append(list, v)
	}
	for _, server := range serversTo(n) {
		list = append(list, voteOf(server, 0, 5), voteOf(server, 0, 0), voteOf(server, -1, 5), voteOf(server, mostView+1, 5), voteOf(server, mostView+1, mostName))
		list = append(list, voteOf(server, 6, -1), voteOf(server, 6, mostName+1), voteOf(server, 6, mostName+2), voteOf(server, 1, -1))
		for _, tag := range []int64{0, -1, impl.Tag(server, "6 5"), impl.Tag(server, "vote 5 6"), impl.Tag(server, "vote 6  5"), impl.Tag(server, "vote 6 5 "), impl.Tag(server, "Vote 6 5"), impl.Tag(server, "vote6 5"), impl.Tag(server, "vote 65"), impl.Tag(server, "vote 06 5"), impl.Digest("vote 6 5"), ballotTag(server, 6, 5) + 2147483647, ballotTag(server, 6, 5) - 2147483647} {
			list = append(list, impl.Vote{View: 6, Name: 5, By: server, Tag: tag})
		}
		for _, v := range []impl.Vote{voteOf(server, 6, 5), voteOf(server, 1, 0), voteOf(server, mostView, mostName)} {
			list = append(list, bentVotes(v)...)
		}
	}
	return list
}

// bentVotes have one field that is one more or one less.
func bentVotes(v impl.Vote) []impl.Vote {
	list := []impl.Vote{}
	for _, by := range []int64{1, -1} {
		view, name, server, tag := v, v, v, v
		view.View += by
		name.Name += by
		server.By += by
		tag.Tag += by
		list = append(list, view, name, server, tag)
	}
	return list
}

// rightViewBlocks are those of n servers.
func rightViewBlocks(n int64) map[string]impl.Block {
	all, quorum := serversTo(n), quorumByRule(n)
	some := proofOf(6, 5, all[:quorum]...)
	blocks := map[string]impl.Block{
		"View 1":                            blockOn(impl.Proof{}, 1, n),
		"View 1, of empty lists":            {View: 1, Proof: impl.Proof{By: []int64{}, Tags: []int64{}}, Moves: []string{}, By: 1 % n},
		"View MaxView":                      blockOn(impl.Proof{}, mostView, n),
		"a Proof of the View ahead":         blockOn(some, 7, n),
		"a Proof of Views ahead":            blockOn(some, 700, n),
		"a Proof of View 1, View 2":         blockOn(proofOf(1, 5, all...), 2, n),
		"a Proof of View 1, View MaxView":   blockOn(proofOf(1, 5, all...), mostView, n),
		"a Proof of View MaxView - 1":       blockOn(proofOf(mostView-1, 5, all...), mostView, n),
		"a Proof of Name 0":                 blockOn(proofOf(6, 0, all...), 7, n),
		"a Proof of Name 2147483646":        blockOn(proofOf(6, mostName, all...), 7, n),
		"a Proof of all":                    blockOn(proofOf(6, 5, all...), 7, n, "a", "b"),
		"one Move":                          blockOn(some, 7, n, "0 1 300 0"),
		"one Move without a byte":           blockOn(some, 7, n, ""),
		"a Move of 59 bytes":                blockOn(some, 7, n, sized(59)),
		"a Move of 60 bytes":                blockOn(some, 7, n, sized(60)),
		"60 bytes, 30 letters":              blockOn(some, 7, n, strings.Repeat("\u00e9", 30)),
		"Moves of all kinds":                blockOn(some, 7, n, "", "\x00", "\xff\x80", "what", "0 1 300 0", "", sized(60)),
		"nine Moves":                        blockOn(some, 7, n, repeated("m", 9)...),
		"ten Moves":                         blockOn(some, 7, n, repeated("m", 10)...),
		"ten Moves without a byte":          blockOn(impl.Proof{}, 7, n, repeated("", 10)...),
		"ten Moves of 60 bytes":             blockOn(proofOf(mostView-1, mostName, all...), mostView, n, repeated(sized(60), 10)...),
		"ten Moves of 60 bytes 255, View 1": blockOn(impl.Proof{}, 1, n, repeated(strings.Repeat("\xff", 60), 10)...),
	}
	for view := int64(1); view <= 15; view++ {
		blocks[fmt.Sprint("the turn of View ", view)] = blockOn(impl.Proof{}, view, n, "m")
		blocks[fmt.Sprint("the turn of View ", mostView-view)] = blockOn(some, mostView-view, n, "m")
	}
	for name, p := range rightProofs(n) {
		if p.View < mostView {
			blocks["on "+name] = blockOn(p, p.View+1, n, "m")
		}
	}
	return blocks
}

// wrongViewBlocks fail in one way each, as far as may be.
func wrongViewBlocks(n int64) map[string]impl.Block {
	all, quorum := serversTo(n), quorumByRule(n)
	some, first := proofOf(6, 5, all[:quorum]...), impl.Proof{}
	with := func(change func(*impl.Block)) impl.Block {
		b := blockOn(proofClone(some), 10, n, "a", "b")
		change(&b)
		return b
	}
	blocks := map[string]impl.Block{
		"zero":                        {},
		"View 0":                      blockOn(first, 0, n, "m"),
		"View -1":                     blockOn(first, -1, n),
		"View -n":                     blockOn(first, -n, n),
		"View MaxView + 1":            blockOn(first, mostView+1, n),
		"View MaxView + 1 on MaxView": blockOn(proofOf(mostView, 5, all...), mostView+1, n),
		"a Proof of the same View":    blockOn(some, 6, n),
		"a Proof of View MaxView":     blockOn(proofOf(mostView, 5, all...), mostView, n),
		"a Proof of a greater View":   blockOn(some, 5, n),
		"a Proof of a far View":       blockOn(proofOf(mostView, 5, all...), 1, n),
		"View 1 on View 1":            blockOn(proofOf(1, 5, all...), 1, n),
		"Parent one more":             with(func(b *impl.Block) { b.Parent++ }),
		"Parent one less":             with(func(b *impl.Block) { b.Parent-- }),
		"Parent 0":                    with(func(b *impl.Block) { b.Parent = 0 }),
		"Parent -1":                   with(func(b *impl.Block) { b.Parent = -1 }),
		"a Parent, the first Proof":   with(func(b *impl.Block) { b.Proof = first }),
		"Parent 1, the first Proof":   {View: 1, Parent: 1, By: 1 % n},
		"Parent -1, the first Proof":  {View: 1, Parent: -1, By: 1 % n},
		"eleven Moves":                with(func(b *impl.Block) { b.Moves = repeated("m", 11) }),
		"eleven Moves without a byte": with(func(b *impl.Block) { b.Moves = repeated("", 11) }),
		"200 Moves":                   with(func(b *impl.Block) { b.Moves = repeated("", 200) }),
		"201 Moves":                   with(func(b *impl.Block) { b.Moves = repeated("", 201) }),
		"a Move of 61 bytes":          with(func(b *impl.Block) { b.Moves = []string{sized(61)} }),
		"a Move of 62, 31 letters":    with(func(b *impl.Block) { b.Moves = []string{strings.Repeat("\u00e9", 31)} }),
		"a Move of 3000 bytes":        with(func(b *impl.Block) { b.Moves = []string{sized(3000)} }),
		"a Move of 3001 bytes":        with(func(b *impl.Block) { b.Moves = []string{sized(3001)} }),
		"By one more":                 with(func(b *impl.Block) { b.By++ }),
		"By one less":                 with(func(b *impl.Block) { b.By-- }),
		"By n more":                   with(func(b *impl.Block) { b.By += n }),
		"By n less":                   with(func(b *impl.Block) { b.By -= n }),
		"By is the View":              with(func(b *impl.Block) { b.By = b.View }),
		"By -1":                       with(func(b *impl.Block) { b.By = -1 }),
		"By n":                        with(func(b *impl.Block) { b.By = n }),
		"By n where it is 0":          with(func(b *impl.Block) { b.View, b.By = 10*n, n }),
		"a Proof of View -1":          blockOn(proofOf(-1, 5, all...), 1, n),
	}
	for at := range mostMoves {
		moves := repeated(sized(60), mostMoves)
		moves[at] = sized(61)
		blocks[fmt.Sprint("61 bytes at ", at)] = with(func(b *impl.Block) { b.Moves = moves })
	}
	for name, p := range wrongProofs(n) {
		// Above each View that a Proof may have, as far as there is one.
		blocks["on "+name] = blockOn(p, mostView, n, "m")
	}
	for _, far := range farNumbers {
		blocks[fmt.Sprint("View ", far)] = blockOn(first, far, n)
		blocks[fmt.Sprint("Parent ", far)] = with(func(b *impl.Block) { b.Parent = far })
		blocks[fmt.Sprint("By ", far)] = with(func(b *impl.Block) { b.By = far })
	}
	return blocks
}

// numberedBlock has an unlike number in each place, of which none has to be right.
func numberedBlock(servers int) impl.Block {
	b := impl.Block{View: 300, Parent: 128, Proof: impl.Proof{View: 127, Name: 16384}, Moves: []string{"ab", "", "c"}, By: 99}
	for i := range int64(servers) {
		b.Proof.By = append(b.Proof.By, 1000+i)
		b.Proof.Tags = append(b.Proof.Tags, i)
	}
	return b
}

// withNumber has another number in a place, of those that numberedBlock has.
func withNumber(servers int, at int, n int64) impl.Block {
	b := numberedBlock(servers)
	places := []*int64{&b.View, &b.Parent, &b.Proof.View, &b.Proof.Name}
	for i := range servers {
		places = append(places, &b.Proof.By[i], &b.Proof.Tags[i])
	}
	*append(places, &b.By)[at] = n
	return b
}

func numbersOfBlock(servers int) int {
	return 5 + 2*servers
}

// shownBlocks can be shown, though hardly one is right.
func shownBlocks() map[string]impl.Block {
	blocks := map[string]impl.Block{
		"zero":                 {},
		"zero, of empty lists": {Proof: impl.Proof{By: []int64{}, Tags: []int64{}}, Moves: []string{}},
		"falling servers":      {Proof: impl.Proof{By: []int64{6, 5, 5, 0}, Tags: []int64{0, 1, 1, 0}}},
		"200 Moves":            {Moves: repeated("m", 200)},
		"a Move of 3000 bytes": {Moves: []string{"", sized(3000), "x"}},
		"200 Moves and seven":  {Proof: numberedBlock(7).Proof, Moves: repeated("", 200), By: most},
		"Moves like a Block":   {View: 1, Moves: []string{showBlockByRule(numberedBlock(3)), "\x00\x00\x00\x00\x00\x00\x00"}},
	}
	for servers := range mostServers + 1 {
		blocks[fmt.Sprint("numbers, ", servers, " servers")] = numberedBlock(servers)
	}
	for _, servers := range []int{0, 1, 3, 7} {
		for at := range numbersOfBlock(servers) {
			for _, n := range []int64{0, 1, 127, 128, mostName, mostName + 1, 1 << 32, most - 1, most} {
				blocks[fmt.Sprint(n, " at ", at, " of ", servers, " servers")] = withNumber(servers, at, n)
			}
		}
	}
	return blocks
}

// hiddenBlocks can't be shown.
func hiddenBlocks() map[string]impl.Block {
	eightServers := numberedBlock(8)
	blocks := map[string]impl.Block{
		"eight servers":               eightServers,
		"a hundred servers":           numberedBlock(100),
		"eight servers, seven Tags":   {Proof: impl.Proof{By: eightServers.Proof.By, Tags: eightServers.Proof.Tags[:7]}},
		"seven servers, eight Tags":   {Proof: impl.Proof{By: eightServers.Proof.By[:7], Tags: eightServers.Proof.Tags}},
		"a server and no Tag":         {Proof: impl.Proof{By: []int64{0}}},
		"a Tag and no server":         {Proof: impl.Proof{Tags: []int64{0}}},
		"two servers and one Tag":     {Proof: impl.Proof{By: []int64{0, 1}, Tags: []int64{5}}},
		"one server and two Tags":     {Proof: impl.Proof{By: []int64{0}, Tags: []int64{5, 6}}},
		"201 Moves":                   {Moves: repeated("", 201)},
		"1000 Moves":                  {Moves: repeated("m", 1000)},
		"a Move of 3001 bytes":        {Moves: []string{sized(3001)}},
		"a Move of 3001 bytes behind": {View: 1, Moves: []string{"a", "", sized(3001)}, By: 1},
		"a Move of 3001 bytes first":  {View: 1, Moves: []string{sized(3001), "a", ""}, By: 1},
	}
	for _, servers := range []int{0, 1, 3, 7} {
		for at := range numbersOfBlock(servers) {
			for _, n := range append(farNumbers, -1, -2, most+1, 2*most, 1<<41+5) {
				if n < 0 || n > most {
					blocks[fmt.Sprint(n, " at ", at, " of ", servers, " servers")] = withNumber(servers, at, n)
				}
			}
		}
	}
	return blocks
}

// someBlocks are of every shape.
func someBlocks() map[string]impl.Block {
	blocks := map[string]impl.Block{}
	for name, b := range shownBlocks() {
		blocks["shown: "+name] = b
	}
	for name, b := range hiddenBlocks() {
		blocks["hidden: "+name] = b
	}
	for _, n := range someServers {
		for name, b := range rightViewBlocks(n) {
			blocks[fmt.Sprint("right of ", n, ": ", name)] = b
		}
		for name, b := range wrongViewBlocks(n) {
			blocks[fmt.Sprint("wrong of ", n, ": ", name)] = b
		}
	}
	return blocks
}

func wantGathered(t *testing.T, name string, list []impl.Vote, n int64, want impl.Proof) {
	t.Helper()
	got, is := impl.Gathered(list, n)
	if !is || !sameProof(got, want) {
		t.Errorf("%s: %v of %d: %v and %v, not %v", name, list, n, got, is, want)
	}
	if !impl.ProofOk(got, n) {
		t.Errorf("%s: %v of %d: %v is no Proof", name, list, n, got)
	}
}

func refuseGathered(t *testing.T, name string, list []impl.Vote, n int64) {
	t.Helper()
	if got, is := impl.Gathered(list, n); is || !sameProof(got, impl.Proof{}) {
		t.Errorf("%s: %v of %d: %v and %v", name, list, n, got, is)
	}
}

func refuseBlockText(t *testing.T, name string, s string) {
	t.Helper()
	if got, is := impl.ReadBlock(s); is || !sameBlock(got, impl.Block{}) {
		t.Fatalf("%s: %.200q: %.200v and %v", name, s, got, is)
	}
}

// checkReadBlock asks ReadBlock against the rule.
func checkReadBlock(t *testing.T, s string) bool {
	t.Helper()
	want, is := readBlockByRule(s)
	got, ok := impl.ReadBlock(s)
	if ok != is || !sameBlock(got, want) {
		t.Fatalf("%.200q: %.200v and %v, not %.200v and %v", s, got, ok, want, is)
	}
	if ok && impl.ShowBlock(got) != s {
		t.Fatalf("%.200q: shown as %.200q", s, impl.ShowBlock(got))
	}
	return ok
}

func TestConstantsOfBlocks(t *testing.T) {
	if impl.MaxView != mostView || impl.MaxServers != mostServers {
		t.Fatal(impl.MaxView, impl.MaxServers)
	}
}

func TestQuorumOfForms(t *testing.T) {
	for n, want := range map[int64]int64{1: 1, 4: 3, 7: 5} {
		if got := impl.Quorum(n); got != want || got != n-(n-1)/3 {
			t.Errorf("%d: %d", n, got)
		}
	}
	for _, n := range append([]int64{0, -1, 2, 3, 5, 6, 8, math.MaxInt64, math.MinInt64}, noServers...) {
		if got := impl.Quorum(n); got != -1 {
			t.Errorf("%d: %d", n, got)
		}
	}
	for n := int64(-300); n <= 300; n++ {
		if got := impl.Quorum(n); got != quorumByRule(n) {
			t.Errorf("%d: %d", n, got)
		}
	}
	for shift := range 64 {
		for _, n := range []int64{1<<shift + 1, 1<<shift + 4, 1<<shift + 7} {
			if got := impl.Quorum(n); got != quorumByRule(n) {
				t.Errorf("%d: %d", n, got)
			}
		}
	}
}

// Of all sets of servers those that Gathered takes are the quorums, and any two of these share more than (n - 1) / 3.
func TestQuorumsShareServers(t *testing.T) {
	for n, wantQuorums := range map[int64]int{1: 1, 4: 5, 7: 29} {
		quorums := [][]int64{}
		for set := range uint(1) << n {
			servers := []int64{}
			for server := range n {
				if set>>server&1 == 1 {
					servers = append(servers, server)
				}
			}
			p, is := impl.Gathered(votesOf(6, 5, servers...), n)
			if is != (int64(len(servers)) >= impl.Quorum(n)) || impl.ProofOk(proofOf(6, 5, servers...), n) != is {
				t.Fatalf("%v of %d: %v", servers, n, is)
			}
			if !is {
				continue
			}
			if !slices.Equal(p.By, servers) {
				t.Fatalf("%v of %d: %v", servers, n, p)
			}
			quorums = append(quorums, p.By)
		}
		if len(quorums) != wantQuorums {
			t.Fatal(n, len(quorums))
		}
		for _, a := range quorums {
			for _, b := range quorums {
				shared := slices.DeleteFunc(slices.Clone(a), func(server int64) bool { return !slices.Contains(b, server) })
				if int64(len(shared)) <= (n-1)/3 {
					t.Fatalf("%v and %v of %d share %v", a, b, n, shared)
				}
			}
		}
	}
}

func TestVotedOfForms(t *testing.T) {
	for _, want := range []impl.Vote{
		{View: 1, Name: 0, By: 0, Tag: 640487564},
		{View: 1, Name: 0, By: 6, Tag: 1845361367},
		{View: 1, Name: 5, By: 2, Tag: 1042112170},
		{View: 1, Name: 5, By: 0, Tag: 640487569},
		{View: 12, Name: 345, By: 1, Tag: 1797348377},
		{View: 1, Name: 2147483646, By: 5, Tag: 1093799281},
		{View: 100000, Name: 0, By: 0, Tag: 520982258},
		{View: 99999, Name: 2147483645, By: 4, Tag: 1982119401},
		{View: 100000, Name: 2147483646, By: 3, Tag: 1105519752},
		{View: 100000, Name: 2147483646, By: 6, Tag: 2142453519},
	} {
		if got := impl.Voted(want.By, want.View, want.Name); got != want {
			t.Errorf("%v, not %v", got, want)
		}
	}
	if v := impl.Voted(2, 17, 4); v.Tag != impl.Tag(2, "vote 17 4") || v != (impl.Vote{View: 17, Name: 4, By: 2, Tag: v.Tag}) {
		t.Error(v)
	}
}

// Each of the three at and past each end of its range, with each of the others.
func TestVotedAtTheEnds(t *testing.T) {
	told, refused := 0, 0
	for _, server := range append(farNumbers, -2, -1, 0, 1, 2, 3, 4, 5, 6, 7, 8) {
		for _, view := range append(farNumbers, -1, 0, 1, 2, 99999, 100000, 100001) {
			for _, name := range append(farNumbers, -2, -1, 0, 1, 2147483645, 2147483646, 2147483647, 2147483648) {
				got := impl.Voted(server, view, name)
				if got != votedByRule(server, view, name) {
					t.Fatalf("%d of %d and %d: %v", server, view, name, got)
				}
				if got == (impl.Vote{}) {
					refused++
				} else {
					told++
				}
			}
		}
	}
	if told != 7*4*4 || refused < 500 {
		t.Fatal(told, refused)
	}
}

func TestVoteOkOfVoted(t *testing.T) {
	for server := range int64(7) {
		for _, view := range []int64{1, 2, 77, mostView} {
			for _, name := range []int64{0, 1, 12345, mostName} {
				v := impl.Voted(server, view, name)
				for _, n := range someServers {
					if impl.VoteOk(v, n) != (server < n) {
						t.Errorf("%v of %d", v, n)
					}
					for _, bent := range bentVotes(v) {
						if impl.VoteOk(bent, n) {
							t.Errorf("%v of %d is taken, bent from %v", bent, n, v)
						}
					}
				}
				for _, n := range noServers {
					if impl.VoteOk(v, n) {
						t.Errorf("%v of %d", v, n)
					}
				}
			}
		}
	}
}

func TestVoteOkOfForms(t *testing.T) {
	for _, n := range someServers {
		for _, v := range rightVotes(n) {
			if !impl.VoteOk(v, n) || !voteByRule(v, n) {
				t.Errorf("%v of %d is refused", v, n)
			}
		}
		for _, v := range wrongVotes(n) {
			if impl.VoteOk(v, n) || voteByRule(v, n) {
				t.Errorf("%v of %d is taken", v, n)
			}
		}
	}
	for _, n := range noServers {
		for _, v := range append(rightVotes(7), wrongVotes(7)...) {
			if impl.VoteOk(v, n) {
				t.Errorf("%v of %d is taken", v, n)
			}
		}
	}
}

func TestProofOkOfForms(t *testing.T) {
	for _, n := range someServers {
		for name, p := range rightProofs(n) {
			if !impl.ProofOk(p, n) || !proofByRule(p, n) {
				t.Errorf("%s of %d: %v is refused", name, n, p)
			}
		}
		for name, p := range wrongProofs(n) {
			if impl.ProofOk(p, n) || proofByRule(p, n) {
				t.Errorf("%s of %d: %v is taken", name, n, p)
			}
		}
	}
}

// A Proof of some servers is none of more of them, and one of fewer has servers that these are not.
func TestProofOkOfOtherServers(t *testing.T) {
	for _, n := range append(noServers, someServers...) {
		for _, of := range someServers {
			for name, p := range rightProofs(of) {
				if got := impl.ProofOk(p, n); got != proofByRule(p, n) {
					t.Errorf("%s of %d, of %d: %v", name, of, n, got)
				}
			}
			for name, p := range wrongProofs(of) {
				if got := impl.ProofOk(p, n); got != proofByRule(p, n) {
					t.Errorf("%s of %d, of %d: %v", name, of, n, got)
				}
			}
		}
	}
	for _, n := range noServers {
		if impl.ProofOk(impl.Proof{}, n) {
			t.Errorf("the first one of %d", n)
		}
	}
}

// All lists of up to five of some servers, each with its Tag: those that rise and are enough are Proofs.
func TestProofOkOfAllServers(t *testing.T) {
	for _, n := range someServers {
		right := 0
		for _, letters := range allOver([]byte{0, 1, 2, 3, 4, 7}, 5) {
			servers := []int64{}
			for _, b := range letters {
				servers = append(servers, int64(b))
			}
			p := proofOf(6, 5, servers...)
			if got := impl.ProofOk(p, n); got != proofByRule(p, n) {
				t.Fatalf("%v of %d: %v", servers, n, got)
			} else if got {
				right++
			}
		}
		if want := map[int64]int{1: 1, 4: 5, 7: 1}[n]; right != want {
			t.Fatal(n, right)
		}
	}
}

// inEachOrder goes through the orders of a list, which is as it was behind that.
func inEachOrder[T any](list []T, with func([]T)) {
	if len(list) == 0 {
		with(list)
		return
	}
	var from func(at int)
	from = func(at int) {
		if at == len(list)-1 {
			with(list)
			return
		}
		for i := at; i < len(list); i++ {
			list[at], list[i] = list[i], list[at]
			from(at + 1)
			list[at], list[i] = list[i], list[at]
		}
	}
	from(0)
}

func TestGatheredInEachOrder(t *testing.T) {
	for n, sets := range map[int64][][]int64{
		1: {{0}},
		4: {{0, 1, 2}, {0, 1, 3}, {0, 2, 3}, {1, 2, 3}, {0, 1, 2, 3}},
		7: {{0, 1, 2, 3, 4}, {2, 3, 4, 5, 6}, {0, 2, 3, 5, 6}, {0, 1, 2, 3, 4, 5}, {1, 2, 3, 4, 5, 6}, {0, 1, 2, 3, 4, 5, 6}},
	} {
		for _, servers := range sets {
			for _, at := range [][2]int64{{6, 5}, {1, 0}, {mostView, mostName}} {
				want := proofOf(at[0], at[1], servers...)
				inEachOrder(votesOf(at[0], at[1], servers...), func(list []impl.Vote) {
					wantGathered(t, "in an order", list, n, want)
				})
			}
		}
	}
	for n, servers := range map[int64][]int64{4: {1, 3}, 7: {0, 2, 4, 6}} {
		inEachOrder(votesOf(6, 5, servers...), func(list []impl.Vote) {
			refuseGathered(t, "one less", list, n)
		})
	}
}

func TestGatheredOfForms(t *testing.T) {
	v := func(server int64) impl.Vote { return voteOf(server, 6, 5) }
	bad := func(server int64) impl.Vote { x := v(server); x.Tag++; return x }
	view := func(server int64) impl.Vote { return voteOf(server, 7, 5) }
	name := func(server int64) impl.Vote { return voteOf(server, 6, 4) }
	wantGathered(t, "of the first one's Name", []impl.Vote{name(2), v(2), v(0), v(3), v(1), name(0), name(1)}, 4, proofOf(6, 4, 0, 1, 2))
	wantGathered(t, "of the first one's View", []impl.Vote{view(2), v(2), v(0), v(3), v(1), view(0), view(1)}, 4, proofOf(7, 5, 0, 1, 2))
	for what, c := range map[string]struct {
		list []impl.Vote
		n    int64
		want []int64
	}{
		"one of one":                              {[]impl.Vote{v(0)}, 1, []int64{0}},
		"one of one, so often":                    {[]impl.Vote{v(0), v(0), v(0)}, 1, []int64{0}},
		"one of one, others behind":               {[]impl.Vote{v(0), v(1), view(0), name(0), bad(0)}, 1, []int64{0}},
		"one of one, first one past":              {[]impl.Vote{v(1), v(0)}, 1, []int64{0}},
		"one of one, first -1":                    {[]impl.Vote{v(-1), v(0)}, 1, []int64{0}},
		"a quorum":                                {[]impl.Vote{v(2), v(0), v(3)}, 4, []int64{0, 2, 3}},
		"all":                                     {[]impl.Vote{v(3), v(2), v(1), v(0)}, 4, []int64{0, 1, 2, 3}},
		"twice by one, then a quorum":             {[]impl.Vote{v(2), v(2), v(0), v(0), v(2), v(3)}, 4, []int64{0, 2, 3}},
		"each twice":                              {[]impl.Vote{v(2), v(1), v(0), v(2), v(1), v(0)}, 4, []int64{0, 1, 2}},
		"another View between":                    {[]impl.Vote{v(2), view(1), v(0), view(0), v(3)}, 4, []int64{0, 2, 3}},
		"another Name between":                    {[]impl.Vote{v(2), name(1), v(0), name(0), v(3)}, 4, []int64{0, 2, 3}},
		"others that are a quorum":                {[]impl.Vote{v(2), name(1), name(0), name(3), name(2), v(0), v(3)}, 4, []int64{0, 2, 3}},
		"a quorum, and the first of another Name": {[]impl.Vote{name(2), v(2), v(0), v(3), v(1), name(0)}, 4, nil},
		"a Tag that is not right":                 {[]impl.Vote{v(2), bad(1), v(0), v(3)}, 4, []int64{0, 2, 3}},
		"a wrong Tag ahead of the right one":      {[]impl.Vote{v(2), bad(3), v(0), v(3)}, 4, []int64{0, 2, 3}},
		"a wrong Tag behind the right one":        {[]impl.Vote{v(2), v(3), v(0), bad(3)}, 4, []int64{0, 2, 3}},
		"the first is not right":                  {[]impl.Vote{bad(1), v(2), v(0), v(3)}, 4, []int64{0, 2, 3}},
		"the first is not right, and then is":     {[]impl.Vote{bad(2), v(2), v(0), v(3)}, 4, []int64{0, 2, 3}},
		"the first is a server past all":          {[]impl.Vote{v(4), v(2), v(0), v(3)}, 4, []int64{0, 2, 3}},
		"the first is no server":                  {[]impl.Vote{{View: 6, Name: 5, By: -1, Tag: -1}, v(2), v(0), v(3)}, 4, []int64{0, 2, 3}},
		"the first is not right, all":             {[]impl.Vote{bad(0), v(3), v(1), v(2), v(0)}, 4, []int64{0, 1, 2, 3}},
		"a server past all between":               {[]impl.Vote{v(2), v(4), v(5), v(0), v(7), v(-1), v(3)}, 4, []int64{0, 2, 3}},
		"the zero Vote between":                   {[]impl.Vote{v(2), {}, v(0), {}, v(3)}, 4, []int64{0, 2, 3}},
		"a quorum of seven":                       {[]impl.Vote{v(6), v(5), v(4), v(0), v(2)}, 7, []int64{0, 2, 4, 5, 6}},
		"all of seven":                            {[]impl.Vote{v(6), v(5), v(4), v(3), v(2), v(1), v(0)}, 7, []int64{0, 1, 2, 3, 4, 5, 6}},
		"none":                                    {nil, 4, nil},
		"none of one":                             {[]impl.Vote{}, 1, nil},
		"one":                                     {[]impl.Vote{v(0)}, 4, nil},
		"one less than a quorum":                  {[]impl.Vote{v(2), v(0)}, 4, nil},
		"one less, one of them so often":          {[]impl.Vote{v(2), v(0), v(2), v(0), v(0)}, 4, nil},
		"one less, and a wrong Tag":               {[]impl.Vote{v(2), v(0), bad(3), bad(2)}, 4, nil},
		"one less, and another View":              {[]impl.Vote{v(2), v(0), view(3), view(1)}, 4, nil},
		"one less, and another Name":              {[]impl.Vote{v(2), v(0), name(3), name(1)}, 4, nil},
		"one less, and a server past all":         {[]impl.Vote{v(2), v(0), v(4), v(-1)}, 4, nil},
		"a quorum behind one of another View":     {[]impl.Vote{view(1), v(2), v(0), v(3)}, 4, nil},
		"a quorum behind one of another Name":     {[]impl.Vote{name(1), v(2), v(0), v(3)}, 4, nil},
		"a quorum behind the zero Vote":           {[]impl.Vote{{}, v(2), v(0), v(3)}, 4, nil},
		"the zero Vote":                           {[]impl.Vote{{}}, 1, nil},
		"the zero Vote so often":                  {make([]impl.Vote, 20), 1, nil},
		"one less of seven":                       {[]impl.Vote{v(6), v(5), v(4), v(0)}, 7, nil},
		"four of seven, as many as of four":       {[]impl.Vote{v(0), v(1), v(2), v(3)}, 7, nil},
		"all that are not right":                  {[]impl.Vote{bad(0), bad(1), bad(2), bad(3)}, 4, nil},
		"one of one, not right":                   {[]impl.Vote{bad(0)}, 1, nil},
		"View 0":                                  {votesOf(0, 5, 0, 1, 2, 3), 4, nil},
		"View 0 and Name 0":                       {votesOf(0, 0, 0, 1, 2, 3), 4, nil},
		"View 0 of one":                           {votesOf(0, 0, 0), 1, nil},
		"View -1":                                 {votesOf(-1, 5, 0, 1, 2, 3), 4, nil},
		"View MaxView + 1":                        {votesOf(mostView+1, 5, 0, 1, 2, 3), 4, nil},
		"Name -1":                                 {votesOf(6, -1, 0, 1, 2, 3), 4, nil},
		"Name 2147483647":                         {votesOf(6, mostName+1, 0, 1, 2, 3), 4, nil},
		"servers past all":                        {votesOf(6, 5, 4, 5, 6, 7), 4, nil},
		"two servers of one":                      {votesOf(6, 5, 1, 2), 1, nil},
		"many, and then a quorum":                 {append(slices.Repeat([]impl.Vote{v(1), bad(3), view(2)}, 300), v(0), v(3)), 4, []int64{0, 1, 3}},
		"many, and one less than a quorum":        {append(slices.Repeat([]impl.Vote{v(1), bad(3), view(2)}, 300), v(0)), 4, nil},
		"six by one server, of seven a quorum 5":  {votesOf(6, 5, 4, 4, 4, 4, 4, 4), 7, nil},
	} {
		if c.want == nil {
			refuseGathered(t, what, c.list, c.n)
		} else {
			wantGathered(t, what, c.list, c.n, proofOf(6, 5, c.want...))
		}
		for _, n := range noServers {
			refuseGathered(t, what, c.list, n)
		}
	}
}

// A Vote that is not right changes nothing, wherever it is, as long as it is of the same View and Name or not the first.
func TestGatheredPassesOverWrongVotes(t *testing.T) {
	for _, n := range someServers {
		for _, size := range []int64{n, quorumByRule(n), quorumByRule(n) - 1} {
			list := votesOf(6, 5, serversTo(size)...)
			for _, wrong := range wrongVotes(n) {
				for at := range len(list) + 1 {
					given := slices.Insert(slices.Clone(list), at, wrong)
					isOther := at == 0 && (wrong.View != 6 || wrong.Name != 5)
					if size < quorumByRule(n) || isOther {
						refuseGathered(t, "a wrong one", given, n)
					} else {
						wantGathered(t, "a wrong one", given, n, proofOf(6, 5, serversTo(size)...))
					}
				}
			}
		}
	}
}

func anyVote(source *rand.Rand) impl.Vote {
	v := voteOf(source.Int63n(8), 1+source.Int63n(2), source.Int63n(2))
	switch source.Intn(20) {
	case 0:
		v.Tag += source.Int63n(3) - 1
	case 1:
		v = voteOf(source.Int63n(9)-1, source.Int63n(4), source.Int63n(3)-1)
	case 2:
		bent := bentVotes(v)
		v = bent[source.Intn(len(bent))]
	}
	return v
}

func TestGatheredByRule(t *testing.T) {
	source := rand.New(rand.NewSource(61))
	told, refused := 0, 0
	for range 30000 {
		list := []impl.Vote{}
		for range source.Intn(30) {
			list = append(list, anyVote(source))
		}
		n := someServers[source.Intn(3)]
		want, is := gatheredByRule(list, n)
		if !is {
			refuseGathered(t, "any", list, n)
			refused++
			continue
		}
		wantGathered(t, "any", list, n, want)
		told++
	}
	if told < 5000 || refused < 5000 {
		t.Fatal(told, refused)
	}
}

func TestProofOkByRule(t *testing.T) {
	source := rand.New(rand.NewSource(62))
	right, wrong := 0, 0
	for range 30000 {
		n := someServers[source.Intn(3)]
		servers := []int64{}
		for server := range n {
			if source.Intn(6) > 0 {
				servers = append(servers, server)
			}
		}
		p := proofOf(1+source.Int63n(3), source.Int63n(3), servers...)
		for source.Intn(2) == 0 {
			list := []*[]int64{&p.By, &p.Tags}[source.Intn(2)]
			at := source.Intn(len(*list) + 1)
			switch source.Intn(6) {
			case 0:
				*list = slices.Insert(*list, at, source.Int63n(8))
			case 1:
				*list = slices.Delete(*list, at-min(at, 1), at)
			case 2:
				p.View += source.Int63n(3) - 1
			case 3:
				p.Name += source.Int63n(3) - 1
			case 4:
				if at > 0 {
					(*list)[at-1] += source.Int63n(3) - 1
				}
			case 5:
				if at > 1 {
					(*list)[at-1], (*list)[at-2] = (*list)[at-2], (*list)[at-1]
				}
			}
		}
		is := proofByRule(p, n)
		if impl.ProofOk(p, n) != is {
			t.Fatalf("%v of %d: %v", p, n, !is)
		}
		if is {
			right++
		} else {
			wrong++
		}
	}
	if right < 5000 || wrong < 5000 {
		t.Fatal(right, wrong)
	}
}

func TestBlockOkOfForms(t *testing.T) {
	for _, n := range someServers {
		for name, b := range rightViewBlocks(n) {
			if !impl.BlockOk(b, n) || !blockByRule(b, n) {
				t.Errorf("%s of %d is refused", name, n)
			}
		}
		for name, b := range wrongViewBlocks(n) {
			if impl.BlockOk(b, n) || blockByRule(b, n) {
				t.Errorf("%s of %d is taken", name, n)
			}
		}
	}
	for name, b := range hiddenBlocks() {
		for _, n := range someServers {
			if impl.BlockOk(b, n) {
				t.Errorf("%s of %d is taken", name, n)
			}
		}
	}
}

func TestBlockOkOfOtherServers(t *testing.T) {
	for name, b := range someBlocks() {
		for _, n := range someServers {
			if got := impl.BlockOk(b, n); got != blockByRule(b, n) {
				t.Errorf("%s, of %d: %v", name, n, got)
			}
		}
		for _, n := range noServers {
			if impl.BlockOk(b, n) {
				t.Errorf("%s, of %d", name, n)
			}
		}
	}
	for _, n := range noServers {
		if n != 0 && impl.BlockOk(impl.Block{View: 1, By: 1 % n}, n) {
			t.Errorf("View 1 of %d", n)
		}
	}
}

// The numbers of a right Block, each moved by one and by n.
func TestBlockOkOfEachNumber(t *testing.T) {
	for _, n := range someServers {
		for name, b := range rightViewBlocks(n) {
			for _, by := range []int64{1, -1, n, -n, 2 * n} {
				for at := range 5 {
					bent := blockClone(b)
					*[]*int64{&bent.View, &bent.Parent, &bent.Proof.View, &bent.Proof.Name, &bent.By}[at] += by
					// Only another View of the same server may be right.
					want := at == 0 && by%n == 0 && bent.View > b.Proof.View && bent.View <= mostView
					if impl.BlockOk(bent, n) != want || blockByRule(bent, n) != want {
						t.Fatalf("%s of %d, number %d moved by %d: %v", name, n, at, by, !want)
					}
				}
			}
		}
	}
}

// blockForms have Blocks in the bytes that the document asks for, worked out by hand.
func blockForms() map[string]struct {
	b    impl.Block
	form string
} {
	return map[string]struct {
		b    impl.Block
		form string
	}{
		"zero":               {impl.Block{}, "\x00\x00\x00\x00\x00\x00\x00"},
		"View":               {impl.Block{View: 1}, "\x01\x00\x00\x00\x00\x00\x00"},
		"Parent":             {impl.Block{Parent: 1}, "\x00\x01\x00\x00\x00\x00\x00"},
		"the Proof's View":   {impl.Block{Proof: impl.Proof{View: 1}}, "\x00\x00\x01\x00\x00\x00\x00"},
		"the Proof's Name":   {impl.Block{Proof: impl.Proof{Name: 1}}, "\x00\x00\x00\x01\x00\x00\x00"},
		"a server":           {impl.Block{Proof: impl.Proof{By: []int64{5}, Tags: []int64{9}}}, "\x00\x00\x00\x00\x01\x05\x09\x00\x00"},
		"two servers":        {impl.Block{Proof: impl.Proof{By: []int64{5, 6}, Tags: []int64{9, 300}}}, "\x00\x00\x00\x00\x02\x05\x09\x06\xac\x02\x00\x00"},
		"a Move":             {impl.Block{Moves: []string{"ab"}}, "\x00\x00\x00\x00\x00\x01\x02ab\x00"},
		"a Move of no bytes": {impl.Block{Moves: []string{""}}, "\x00\x00\x00\x00\x00\x01\x00\x00"},
		"three Moves":        {impl.Block{Moves: []string{"c", "", "ab"}}, "\x00\x00\x00\x00\x00\x03\x01c\x00\x02ab\x00"},
		"By":                 {impl.Block{By: 1}, "\x00\x00\x00\x00\x00\x00\x01"},
		"the document's": {
			impl.Block{View: 1, Moves: []string{"m"}, By: 1},
			"\x01\x00\x00\x00\x00\x01\x01m\x01",
		},
		"greater numbers": {
			impl.Block{View: 300, Parent: 128, Proof: impl.Proof{View: 127, Name: 16384, By: []int64{5, 300}, Tags: []int64{128, 1}}, Moves: []string{"m"}, By: 255},
			"\xac\x02\x80\x01\x7f\x80\x80\x01\x02\x05\x80\x01\xac\x02\x01\x01\x01m\xff\x01",
		},
		"on the document's": {
			impl.Block{View: 2, Parent: 69860911, Proof: impl.Proof{View: 1, Name: 69860911, By: []int64{0, 1, 2}, Tags: []int64{884382504, 1662245249, 292624347}}, Moves: []string{"n", ""}, By: 2},
			"\x02\xaf\xfc\xa7!\x01\xaf\xfc\xa7!\x03\x00\xa8\xb6\xda\xa5\x03\x01\x81\xb3\xcf\x98\x06\x02\xdb\xaf\xc4\x8b\x01\x02\x01n\x00\x02",
		},
		"seven servers": {
			impl.Block{Proof: impl.Proof{By: []int64{0, 1, 2, 3, 4, 5, 6}, Tags: []int64{10, 11, 12, 13, 14, 15, 16}}},
			"\x00\x00\x00\x00\x07\x00\x0a\x01\x0b\x02\x0c\x03\x0d\x04\x0e\x05\x0f\x06\x10\x00\x00",
		},
		"the greatest numbers": {
			impl.Block{View: most, Parent: most, Proof: impl.Proof{View: most, Name: most, By: []int64{most}, Tags: []int64{most}}, By: most},
			strings.Repeat("\x80\x80\x80\x80\x80\x20", 4) + "\x01" + strings.Repeat("\x80\x80\x80\x80\x80\x20", 2) + "\x00" + "\x80\x80\x80\x80\x80\x20",
		},
		"200 Moves": {
			impl.Block{View: 1, Moves: repeated("m", 200)},
			"\x01\x00\x00\x00\x00\xc8\x01" + strings.Repeat("\x01m", 200) + "\x00",
		},
		"a Move of 3000 bytes": {
			impl.Block{View: 1, Moves: []string{sized(3000)}},
			"\x01\x00\x00\x00\x00\x01\xb8\x17" + sized(3000) + "\x00",
		},
	}
}

func TestShowBlockOfForms(t *testing.T) {
	for name, c := range blockForms() {
		if got := impl.ShowBlock(c.b); got != c.form || got != showBlockByRule(c.b) {
			t.Errorf("%s: %.200q, not %.200q", name, got, c.form)
		}
		if got, is := impl.ReadBlock(c.form); !is || !sameBlock(got, c.b) {
			t.Errorf("%s: %.200v and %v", name, got, is)
		}
	}
}

func TestShowBlockOfEveryShape(t *testing.T) {
	for name, b := range someBlocks() {
		if got := impl.ShowBlock(b); got != showBlockByRule(b) {
			t.Errorf("%s: %.200q", name, got)
		}
	}
	for name, b := range shownBlocks() {
		if impl.ShowBlock(b) == "" {
			t.Errorf("%s is hidden", name)
		}
	}
	for name, b := range hiddenBlocks() {
		if got := impl.ShowBlock(b); got != "" {
			t.Errorf("%s: %.200q", name, got)
		}
	}
	for _, n := range someServers {
		for name, b := range rightViewBlocks(n) {
			if impl.ShowBlock(b) == "" {
				t.Errorf("%s of %d is hidden", name, n)
			}
		}
	}
}

// Promise 15: ReadBlock of ShowBlock is the Block; no two unlike ones are shown alike.
func TestReadBlockOfShowBlock(t *testing.T) {
	seen := map[string]impl.Block{}
	shown := 0
	for name, b := range someBlocks() {
		s := impl.ShowBlock(b)
		if s == "" {
			continue
		}
		shown++
		if got, is := impl.ReadBlock(s); !is || !sameBlock(got, b) {
			t.Errorf("%s: %.200v and %v, not %.200v", name, got, is, b)
		}
		if other, is := seen[s]; is && !sameBlock(other, b) {
			t.Errorf("%s: shown as %.200v is", name, other)
		}
		seen[s] = b
	}
	if shown < 400 {
		t.Fatal(shown)
	}
	refuseBlockText(t, "an empty text", "")
}

// shortBlockTexts are those of some shapes of Blocks, none of them so long that each part of it could not be asked for.
func shortBlockTexts() []string {
	texts := []string{}
	for _, b := range someBlocks() {
		if s := showBlockByRule(b); s != "" && len(s) < 800 {
			texts = append(texts, s)
		}
	}
	slices.Sort(texts)
	return slices.Compact(texts)
}

func TestReadBlockOfEveryPart(t *testing.T) {
	for _, s := range shortBlockTexts() {
		for at := range len(s) {
			refuseBlockText(t, "a part", s[:at])
			if at > 0 {
				checkReadBlock(t, s[at:])
			}
		}
	}
}

func TestReadBlockWithSomethingBehind(t *testing.T) {
	for _, s := range shortBlockTexts() {
		for b := range 256 {
			refuseBlockText(t, "a byte behind", s+string([]byte{byte(b)}))
		}
		for _, behind := range []string{s, "\x00\x00", "\n", "\x80\x00", s[:len(s)/2], strings.Repeat("\x00", 3000)} {
			refuseBlockText(t, "something behind", s+behind)
		}
	}
	for name, c := range blockForms() {
		refuseBlockText(t, name, c.form+"\x00")
		refuseBlockText(t, name, c.form[:len(c.form)-1])
	}
}

func TestReadBlockOfNearTexts(t *testing.T) {
	mostForm, pastMost := "\x80\x80\x80\x80\x80\x20", "\x81\x80\x80\x80\x80\x20"
	for name, s := range map[string]string{
		"nothing":                        "",
		"a number":                       "\x01",
		"six noughts":                    "\x00\x00\x00\x00\x00\x00",
		"eight noughts":                  "\x00\x00\x00\x00\x00\x00\x00\x00",
		"digits":                         "1 0 0 0 0 1 m 1",
		"a View in two bytes":            "\x81\x00\x00\x00\x00\x00\x00\x00",
		"a Parent in two bytes":          "\x01\x80\x00\x00\x00\x00\x00\x00",
		"a Proof's View in two bytes":    "\x01\x00\x80\x00\x00\x00\x00\x00",
		"a Proof's Name in two bytes":    "\x01\x00\x00\x80\x00\x00\x00\x00",
		"no servers in two bytes":        "\x01\x00\x00\x00\x80\x00\x00\x00",
		"one server in two bytes":        "\x01\x00\x00\x00\x81\x00\x00\x00\x00\x00",
		"a server in two bytes":          "\x01\x00\x00\x00\x01\x83\x00\x00\x00\x00",
		"a Tag in two bytes":             "\x01\x00\x00\x00\x01\x03\x84\x00\x00\x00",
		"no Moves in two bytes":          "\x01\x00\x00\x00\x00\x80\x00\x00",
		"a Move's bytes in two bytes":    "\x01\x00\x00\x00\x00\x01\x81\x00m\x00",
		"By in two bytes":                "\x01\x00\x00\x00\x00\x00\x81\x00",
		"View past MaxNumber":            pastMost + "\x00\x00\x00\x00\x00\x00",
		"Parent past MaxNumber":          "\x00" + pastMost + "\x00\x00\x00\x00\x00",
		"a Proof's View past MaxNumber":  "\x00\x00" + pastMost + "\x00\x00\x00\x00",
		"a Proof's Name past MaxNumber":  "\x00\x00\x00" + pastMost + "\x00\x00\x00",
		"a server past MaxNumber":        "\x00\x00\x00\x00\x01" + pastMost + "\x00\x00\x00",
		"a Tag past MaxNumber":           "\x00\x00\x00\x00\x01\x00" + pastMost + "\x00\x00",
		"By past MaxNumber":              "\x00\x00\x00\x00\x00\x00" + pastMost,
		"MaxNumber servers":              "\x00\x00\x00\x00" + mostForm + "\x00\x00\x00\x00",
		"MaxNumber Moves":                "\x00\x00\x00\x00\x00" + mostForm + "\x00\x00",
		"a Move of MaxNumber bytes":      "\x00\x00\x00\x00\x00\x01" + mostForm + "\x00\x00",
		"View, no more bytes":            "\x80",
		"By, no more bytes":              "\x00\x00\x00\x00\x00\x00\x80",
		"eight servers":                  "\x00\x00\x00\x00\x08" + strings.Repeat("\x01\x02", 8) + "\x00\x00",
		"seven servers, eight there":     "\x00\x00\x00\x00\x07" + strings.Repeat("\x01\x02", 8) + "\x00\x00",
		"seven servers, six there":       "\x00\x00\x00\x00\x07" + strings.Repeat("\x01\x02", 6) + "\x00\x00",
		"a server without a Tag":         "\x00\x00\x00\x00\x01\x01\x00\x00",
		"a server and nothing":           "\x00\x00\x00\x00\x01\x01",
		"servers, and then Tags":         "\x00\x00\x00\x00\x02\x01\x02\xff",
		"201 Moves":                      "\x00\x00\x00\x00\x00\xc9\x01" + strings.Repeat("\x00", 201) + "\x00",
		"200 Moves, 199 there":           "\x00\x00\x00\x00\x00\xc8\x01" + strings.Repeat("\x00", 199),
		"200 Moves, 201 there":           "\x00\x00\x00\x00\x00\xc8\x01" + strings.Repeat("\x00", 201) + "\x01",
		"a Move of 3001 bytes":           "\x00\x00\x00\x00\x00\x01\xb9\x17" + sized(3001) + "\x00",
		"a Move, a byte less than told":  "\x00\x00\x00\x00\x00\x01\x03ab",
		"a Move, no byte left for By":    "\x00\x00\x00\x00\x00\x01\x03ab\x00",
		"two Moves, one there":           "\x00\x00\x00\x00\x00\x02\x01m\x00",
		"one Move, two there":            "\x00\x00\x00\x00\x00\x01\x01m\x01n\x00",
		"a byte 10 ahead":                "\n\x00\x00\x00\x00\x00\x00\x00",
		"nothing but bytes 255":          strings.Repeat("\xff", 50),
		"nothing but bytes 128":          strings.Repeat("\x80", 50),
		"very many noughts":              strings.Repeat("\x00", 100000),
		"a digest for the text":          decimal(impl.Digest("\x00\x00\x00\x00\x00\x00\x00")),
		"the document's, its Move alone": "\x01m",
	} {
		refuseBlockText(t, name, s)
		if checkReadBlock(t, s) {
			t.Error(name)
		}
	}
}

// All short texts over a few bytes: Blocks are read just where ShowBlock makes the text.
func TestReadBlockOfAllShortTexts(t *testing.T) {
	for letters, room := range map[string]int{"\x00\x01": 12, "\x00\x01\x80": 10, "\x00\x02\x07\xff": 9} {
		read := 0
		for _, data := range allOver([]byte(letters), room) {
			if checkReadBlock(t, string(data)) {
				read++
			}
		}
		if read < 100 {
			t.Fatalf("%q: %d", letters, read)
		}
	}
}

func anyBlock(source *rand.Rand) impl.Block {
	number := func() int64 {
		return source.Int63n(most+1) >> source.Intn(41)
	}
	b := impl.Block{View: number(), Parent: number(), Proof: impl.Proof{View: number(), Name: number()}, By: number()}
	for range source.Intn(8) {
		b.Proof.By, b.Proof.Tags = append(b.Proof.By, number()), append(b.Proof.Tags, number())
	}
	for range source.Intn(1 + []int{0, 3, 10, 200}[source.Intn(4)]) {
		b.Moves = append(b.Moves, anyBytes(source, source.Intn(1+[]int{0, 5, 60, 200}[source.Intn(4)])))
	}
	return b
}

func TestReadBlockOfAnyBlock(t *testing.T) {
	source := rand.New(rand.NewSource(63))
	for range 5000 {
		b := anyBlock(source)
		s := impl.ShowBlock(b)
		if s == "" || s != showBlockByRule(b) {
			t.Fatalf("%.200v: %.200q", b, s)
		}
		if got, is := impl.ReadBlock(s); !is || !sameBlock(got, b) {
			t.Fatalf("%.200v: %.200v and %v", b, got, is)
		}
	}
}

func TestReadBlockOfChangedTexts(t *testing.T) {
	source := rand.New(rand.NewSource(64))
	texts := shortBlockTexts()
	read, refused := 0, 0
	for range 60000 {
		data := []byte(texts[source.Intn(len(texts))])
		for range 1 + source.Intn(3) {
			if len(data) > 0 {
				data = changed(source, data)
			}
		}
		if checkReadBlock(t, string(data)) {
			read++
		} else {
			refused++
		}
	}
	if read < 1000 || refused < 1000 {
		t.Fatal(read, refused)
	}
}

func TestReadBlockOfAnyText(t *testing.T) {
	source := rand.New(rand.NewSource(65))
	read := 0
	for range 200000 {
		data := make([]byte, source.Intn(14))
		for i := range data {
			data[i] = byte(source.Intn(256) >> source.Intn(9))
		}
		if checkReadBlock(t, string(data)) {
			read++
		}
	}
	if read < 100 {
		t.Fatal(read)
	}
}

// noughtBlocks have a Digest of 0, which was looked for from both ends of their texts.
func noughtBlocks() []impl.Block {
	blocks := []impl.Block{}
	for _, text := range []string{"psxrapbo", "mhwfbgks", "ytoacbtk", "kqxfcdzk"} {
		blocks = append(blocks, impl.Block{View: 1, Moves: []string{text}, By: 1})
	}
	return blocks
}

func TestNameOfForms(t *testing.T) {
	forms := blockForms()
	for name, want := range map[string]int64{"zero": 1711156042, "the document's": 69860911, "on the document's": 1081761599} {
		if got := impl.Name(forms[name].b); got != want {
			t.Errorf("%s: %d, not %d", name, got, want)
		}
	}
	for text, want := range map[string]int64{"qxwcassg": 1, "voytayue": 1, "wszybvbj": 1, "ybnkaegv": 2147483646, "zvpwakmj": 2147483646, "m": 69860911} {
		b := impl.Block{View: 1, Moves: []string{text}, By: 1}
		if got := impl.Name(b); got != want || impl.Digest(impl.ShowBlock(b)) != want {
			t.Errorf("%s: %d, not %d", text, got, want)
		}
	}
	if got := impl.Name(impl.Block{View: 1, By: 1}); got != 1625314994 {
		t.Error(got)
	}
}

func TestNameWhereTheDigestIsNought(t *testing.T) {
	for _, b := range noughtBlocks() {
		if s := impl.ShowBlock(b); impl.Digest(s) != 0 || bigDigest(s) != 0 || !impl.BlockOk(b, 4) {
			t.Fatalf("%v has Digest %d", b, impl.Digest(s))
		}
		if got := impl.Name(b); got != 1 {
			t.Errorf("%v: %d", b, got)
		}
	}
}

func TestNameOfEveryShape(t *testing.T) {
	for name, b := range someBlocks() {
		got := impl.Name(b)
		if got != blockNameByRule(b) {
			t.Errorf("%s: %d", name, got)
		}
		if s := impl.ShowBlock(b); s == "" && got != -1 || s != "" && got != impl.Digest(s) {
			t.Errorf("%s: %d, shown as %.200q", name, got, s)
		}
	}
	for name, b := range hiddenBlocks() {
		if got := impl.Name(b); got != -1 {
			t.Errorf("%s: %d", name, got)
		}
	}
	source := rand.New(rand.NewSource(66))
	for range 3000 {
		b := anyBlock(source)
		if got := impl.Name(b); got != impl.Digest(impl.ShowBlock(b)) || !inRange(got, 1, mostName) {
			t.Fatalf("%.200v: %d", b, got)
		}
	}
}

// Blocks, each voted for by a quorum that the next one shows: all are right, and are read from what is shown of them.
func TestBlocksInAChain(t *testing.T) {
	for _, n := range someServers {
		for _, step := range []int64{1, 2, 900} {
			starts := append(noughtBlocks(), blockOn(impl.Proof{}, 3, n, "0 1 300 0"))
			for _, b := range starts {
				b.By = b.View % n
				for at := range 20 {
					if !impl.BlockOk(b, n) || !blockByRule(b, n) {
						t.Fatalf("number %d of %d: %v", at, n, b)
					}
					read, is := impl.ReadBlock(impl.ShowBlock(b))
					if !is || !sameBlock(read, b) || impl.Name(read) != impl.Name(b) {
						t.Fatalf("number %d of %d: %v is read as %v", at, n, b, read)
					}
					votes := []impl.Vote{}
					for server := n - 1; server >= (n-1)/3; server-- {
						votes = append(votes, impl.Voted(server, b.View, impl.Name(b)))
					}
					p, is := impl.Gathered(votes, n)
					if !is || !impl.ProofOk(p, n) || int64(len(p.By)) != impl.Quorum(n) || p.View != b.View || p.Name != impl.Name(b) {
						t.Fatalf("number %d of %d: %v tells %v", at, n, votes, p)
					}
					b = blockOn(p, b.View+step, n, fmt.Sprint("0 1 1 ", at))
				}
			}
		}
	}
}

// What is behind a list is no part of it, be it what is missing or what is wrong.
func TestBlocksKeepOutOfTheSpareRoom(t *testing.T) {
	all := proofOf(6, 5, 0, 1, 2, 3)
	few, right := all, all
	few.By, few.Tags = all.By[:2], all.Tags[:2]
	right.By, right.Tags = roomy(all.By, 9, -1, 0), roomy(all.Tags, 0, 5)
	uneven := all
	uneven.Tags = all.Tags[:3]
	if impl.ProofOk(few, 4) || impl.ProofOk(uneven, 4) || !impl.ProofOk(right, 4) {
		t.Error("a Proof hangs on the room")
	}
	if first := (impl.Proof{By: all.By[:0], Tags: all.Tags[:0]}); !impl.ProofOk(first, 4) {
		t.Error("the first Proof hangs on the room")
	}
	votes := votesOf(6, 5, 0, 1, 2, 3)
	refuseGathered(t, "none", votes[:0], 4)
	refuseGathered(t, "two", votes[:2], 4)
	wantGathered(t, "three", votes[:3], 4, proofOf(6, 5, 0, 1, 2))
	moves := append(repeated("m", 10), sized(3001))
	b := blockOn(right, 7, 4, moves[:10]...)
	tight := blockOn(all, 7, 4, repeated("m", 10)...)
	if !impl.BlockOk(b, 4) || impl.ShowBlock(b) != impl.ShowBlock(tight) || impl.Name(b) != impl.Name(tight) {
		t.Error("a Block hangs on the room")
	}
	b.Proof = uneven
	if got := impl.ShowBlock(b); got != "" || impl.Name(b) != -1 {
		t.Errorf("%q", got)
	}
}

// blockArguments are those of all functions of the chapter.
type blockArguments struct {
	N      int64
	Server int64
	View   int64
	Name   int64
	Vote   impl.Vote
	Votes  []impl.Vote
	Proof  impl.Proof
	Block  impl.Block
	Text   string
}

func roomyProof(p impl.Proof) impl.Proof {
	p.By, p.Tags = roomy(p.By, 3, -1, 0, 6), roomy(p.Tags, ballotTag(3, 6, 5), -1, 0)
	return p
}

func tightProof(p impl.Proof) impl.Proof {
	p.By, p.Tags = slices.Clip(slices.Clone(p.By)), slices.Clip(slices.Clone(p.Tags))
	return p
}

func (x blockArguments) roomy() blockArguments {
	x.Votes = roomy(x.Votes, votesOf(6, 5, 3, 2, 1, 0)...)
	x.Proof, x.Block.Proof = roomyProof(x.Proof), roomyProof(x.Block.Proof)
	x.Block.Moves = roomy(x.Block.Moves, "behind", "", sized(61))
	return x
}

func (x blockArguments) tight() blockArguments {
	x.Votes = slices.Clip(slices.Clone(x.Votes))
	x.Proof, x.Block.Proof = tightProof(x.Proof), tightProof(x.Block.Proof)
	x.Block.Moves = slices.Clip(slices.Clone(x.Block.Moves))
	return x
}

func blockAnswers() map[string]func(blockArguments) any {
	type gathered struct {
		Proof impl.Proof
		Is    bool
	}
	type read struct {
		Block impl.Block
		Is    bool
	}
	return map[string]func(blockArguments) any{
		"Quorum":  func(x blockArguments) any { return impl.Quorum(x.N) },
		"Voted":   func(x blockArguments) any { return impl.Voted(x.Server, x.View, x.Name) },
		"VoteOk":  func(x blockArguments) any { return impl.VoteOk(x.Vote, x.N) },
		"ProofOk": func(x blockArguments) any { return impl.ProofOk(x.Proof, x.N) },
		"Gathered": func(x blockArguments) any {
			p, is := impl.Gathered(x.Votes, x.N)
			return gathered{p, is}
		},
		"BlockOk":   func(x blockArguments) any { return impl.BlockOk(x.Block, x.N) },
		"ShowBlock": func(x blockArguments) any { return impl.ShowBlock(x.Block) },
		"ReadBlock": func(x blockArguments) any {
			b, is := impl.ReadBlock(x.Text)
			return read{b, is}
		},
		"Name": func(x blockArguments) any { return impl.Name(x.Block) },
	}
}

// votesOfProof has as many as there are servers, with what Tags there are.
func votesOfProof(p impl.Proof) []impl.Vote {
	list := []impl.Vote{}
	for i, server := range p.By {
		v := impl.Vote{View: p.View, Name: p.Name, By: server}
		if i < len(p.Tags) {
			v.Tag = p.Tags[i]
		}
		list = append(list, v)
	}
	return list
}

// blockCases goes through the functions and arguments of all kinds.
func blockCases(with func(name string, x blockArguments, answer func(blockArguments) any)) {
	some := []int64{0, 1, 4, 7, -1, 5, 6, mostView, mostView + 1, mostName, mostName + 1, math.MinInt64, math.MaxInt64}
	at := 0
	for name, b := range someBlocks() {
		at++
		s := showBlockByRule(b)
		x := blockArguments{
			Server: some[at%len(some)],
			View:   some[at/2%len(some)],
			Name:   some[at/3%len(some)],
			Votes:  votesOfProof(b.Proof),
			Proof:  b.Proof,
			Block:  b,
			Text:   s[:len(s)-at%2*min(1, len(s))],
		}
		if len(x.Votes) > 0 {
			x.Vote = x.Votes[at%len(x.Votes)]
		}
		for _, n := range []int64{1, 4, 7, 3} {
			x.N = n
			for what, answer := range blockAnswers() {
				with(fmt.Sprint(name, ", of ", n, ": ", what), x, answer)
			}
		}
	}
}

func TestBlocksLeaveTheirArguments(t *testing.T) {
	blockCases(func(name string, x blockArguments, answer func(blockArguments) any) {
		wantLeft(t, name, x, answer)
	})
}

func TestBlocksGiveNewMemory(t *testing.T) {
	blockCases(func(name string, x blockArguments, answer func(blockArguments) any) {
		wantNewMemory(t, name, x, answer)
	})
}

// A Move that is read is no part of the text: the text may go, and be written over.
func TestReadBlockSharesNothingWithTheText(t *testing.T) {
	for name, b := range someBlocks() {
		s := showBlockByRule(b)
		if s == "" {
			continue
		}
		data := []byte(s)
		got, is := impl.ReadBlock(aliased(data))
		if string(data) != s || overlap(textSpans(got.Moves...), textSpan(aliased(data))) {
			t.Errorf("%s: the text's memory", name)
		}
		clear(data)
		if !is || !sameBlock(got, b) {
			t.Errorf("%s: the text was cleared, and the answer with it", name)
		}
	}
}

func TestShowBlockSharesNothingWithTheMoves(t *testing.T) {
	for name, b := range someBlocks() {
		data, want := [][]byte{}, showBlockByRule(b)
		given := blockClone(b)
		for i, text := range b.Moves {
			data = append(data, []byte(text))
			given.Moves[i] = aliased(data[i])
		}
		got := impl.ShowBlock(given)
		if overlap(textSpan(got), textSpans(given.Moves...)) {
			t.Errorf("%s: a Move's memory", name)
		}
		for i := range data {
			clear(data[i])
		}
		if got != want {
			t.Errorf("%s: the Moves were cleared, and the answer with them", name)
		}
	}
}

// What is written into an answer is in none of the arguments, nor in an answer that comes later, nor in another list of it.
func TestBlocksApartFromTheirAnswers(t *testing.T) {
	for _, n := range someServers {
		votes := votesOf(6, 5, serversTo(n)...)
		want := proofOf(6, 5, serversTo(n)...)
		got, _ := impl.Gathered(votes, n)
		spoil(got.By, -7)
		if !slices.Equal(got.Tags, want.Tags) {
			t.Errorf("of %d: Tags lie in By", n)
		}
		spoil(got.Tags, -7)
		wantGathered(t, "once more", votes, n, want)
		if !slices.Equal(votes, votesOf(6, 5, serversTo(n)...)) {
			t.Errorf("of %d: an answer is the argument's memory", n)
		}
	}
	for name, b := range someBlocks() {
		s := showBlockByRule(b)
		if s == "" {
			continue
		}
		got, _ := impl.ReadBlock(s)
		spoil(got.Proof.By, -7)
		if !slices.Equal(got.Proof.Tags, b.Proof.Tags) || !slices.Equal(got.Moves, b.Moves) {
			t.Errorf("%s: two lists lie together", name)
		}
		spoil(got.Proof.Tags, -7)
		spoil(got.Moves, "spoilt")
		if again, is := impl.ReadBlock(s); !is || !sameBlock(again, b) {
			t.Errorf("%s: %.200v and %v", name, again, is)
		}
	}
}

// By and Tags may be one list, and so may the list of a Proof and that of a Block.
func TestBlocksOfListsThatLieTogether(t *testing.T) {
	both := []int64{0, 1, 2}
	p := impl.Proof{View: 6, Name: 5, By: both, Tags: both}
	if impl.ProofOk(p, 4) {
		t.Error("servers as Tags")
	}
	b := impl.Block{Proof: p}
	want := "\x00\x00\x06\x05\x03\x00\x00\x01\x01\x02\x02\x00\x00"
	if got := impl.ShowBlock(b); got != want {
		t.Errorf("%q", got)
	}
	got, is := impl.ReadBlock(want)
	if !is || !sameBlock(got, b) || sharesMemory(got, b) {
		t.Error(got, is)
	}
	row := append([]int64{0, 1, 2}, proofOf(6, 5, 0, 1, 2).Tags...)
	if p := (impl.Proof{View: 6, Name: 5, By: row[:3], Tags: row[3:]}); !impl.ProofOk(p, 4) {
		t.Error("one behind the other")
	}
}
