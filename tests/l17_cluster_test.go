package tests

import (
	"fmt"
	"math/rand"
	"slices"
	"strings"
	"testing"

	"loop.example/g00217/impl"
)

// The numbers of the document, written out again.
const mostNet = 150
const mostOps = 300
const mostCalm = 300

func messageClone(m impl.Message) impl.Message {
	m.Block, m.Proof = blockClone(m.Block), proofClone(m.Proof)
	return m
}

func clusterClone(c impl.Cluster) impl.Cluster {
	c.Replicas, c.Net = slices.Clone(c.Replicas), slices.Clone(c.Net)
	for i, r := range c.Replicas {
		c.Replicas[i] = replicaClone(r)
	}
	for i, m := range c.Net {
		c.Net[i] = messageClone(m)
	}
	return c
}

// clusterAs has changed copies of what may be changed.
func clusterAs(c impl.Cluster, changes ...func(*impl.Cluster)) impl.Cluster {
	c = clusterClone(c)
	for _, change := range changes {
		change(&c)
	}
	return c
}

func sameCluster(a impl.Cluster, b impl.Cluster) bool {
	return slices.EqualFunc(a.Replicas, b.Replicas, sameReplica) && sameMessages(a.Net, b.Net)
}

// clusterOf gives each Replica its place; they have to be of so many.
func clusterOf(replicas ...impl.Replica) impl.Cluster {
	c := impl.Cluster{}
	for i, r := range replicas {
		c.Replicas = append(c.Replicas, replicaAs(r, func(r *impl.Replica) { r.Id = int64(i) }))
	}
	return c
}

func newCluster(n int64) impl.Cluster {
	return clusterOf(slices.Repeat([]impl.Replica{newOf(0, n)}, int(n))...)
}

// someCluster has Replicas with something in each field, and nothing under way.
func someCluster(n int64) impl.Cluster {
	return clusterOf(slices.Repeat([]impl.Replica{someReplica(n)}, int(n))...)
}

// withOne has this Replica where another one was.
func withOne(c impl.Cluster, id int64, r impl.Replica) impl.Cluster {
	return clusterAs(c, func(c *impl.Cluster) { c.Replicas[id] = replicaClone(r) })
}

// onNet has these under way behind all others.
func onNet(c impl.Cluster, messages ...impl.Message) impl.Cluster {
	return clusterAs(c, func(c *impl.Cluster) {
		for _, m := range messages {
			c.Net = append(c.Net, messageClone(m))
		}
	})
}

// idle are messages that change nobody, and no two of them in a row are alike.
func idle(count int, n int64) []impl.Message {
	list := []impl.Message{}
	for i := range count {
		list = append(list, impl.Message{Kind: 0, From: -1, To: int64(i) % n, View: int64(i)})
	}
	return list
}

// The chapter by its words: each Op looks at the whole cluster anew, and asks the Replica it is about.

func clusterByRule(c impl.Cluster) bool {
	n := int64(len(c.Replicas))
	if quorumByRule(n) < 0 || len(c.Net) > mostNet {
		return false
	}
	for i, r := range c.Replicas {
		if r.Id != int64(i) || r.N != n || !impl.ReplicaOk(r) {
			return false
		}
	}
	return !slices.ContainsFunc(c.Net, func(m impl.Message) bool { return !inRange(m.To, 0, n-1) })
}

func without(list []impl.Message, at int64) []impl.Message {
	return slices.Concat(list[:at], list[at+1:])
}

// doneByRule is for a right cluster: what becomes of it, and what is sent, where something is done.
func doneByRule(c impl.Cluster, op impl.Op) (impl.Cluster, []impl.Message, bool) {
	c = clusterClone(c)
	isServer := inRange(op.Server, 0, int64(len(c.Replicas))-1)
	isIndex := inRange(op.Index, 0, int64(len(c.Net))-1)
	isTo := inRange(op.Message.To, 0, int64(len(c.Replicas))-1)
	sent, is := []impl.Message{}, true
	switch {
	case op.Kind == 1 && isServer:
		c.Replicas[op.Server], sent, is = impl.Propose(c.Replicas[op.Server], op.Moves)
	case op.Kind == 2 && isServer:
		c.Replicas[op.Server], sent = impl.Timeout(c.Replicas[op.Server])
	case op.Kind == 3 && isServer:
		c.Replicas[op.Server] = impl.Restart(c.Replicas[op.Server])
	case op.Kind == 4 && isIndex:
		m := c.Net[op.Index]
		c.Net = without(c.Net, op.Index)
		c.Replicas[m.To], sent = impl.Hear(c.Replicas[m.To], m)
	case op.Kind == 5 && isIndex:
		c.Net = without(c.Net, op.Index)
	case op.Kind == 6 && isIndex:
		sent = append(sent, messageClone(c.Net[op.Index]))
	case op.Kind == 7 && isTo:
		sent = append(sent, messageClone(op.Message))
	default:
		is = false
	}
	return c, sent, is
}

// oneByRule is for a right cluster too.
func oneByRule(c impl.Cluster, op impl.Op) (impl.Cluster, int64) {
	out, sent, is := doneByRule(c, op)
	if !is {
		return c, 1
	}
	for _, m := range sent {
		if len(out.Net) < mostNet {
			out.Net = append(out.Net, m)
		}
	}
	return out, 0
}

func actByRule(c impl.Cluster, op impl.Op) (impl.Cluster, int64) {
	if !clusterByRule(c) {
		return impl.Cluster{}, 2
	}
	return oneByRule(c, op)
}

func playByRule(c impl.Cluster, list []impl.Op) (impl.Cluster, []int64) {
	if !clusterByRule(c) || len(list) > mostOps {
		return impl.Cluster{}, nil
	}
	codes := []int64{}
	for _, op := range list {
		out, code := oneByRule(c, op)
		c, codes = out, append(codes, code)
	}
	return c, codes
}

func calmByRule(c impl.Cluster) impl.Cluster {
	if !clusterByRule(c) {
		return impl.Cluster{}
	}
	for count := 0; count < mostCalm && len(c.Net) > 0; count++ {
		c, _ = oneByRule(c, impl.Op{Kind: 4})
	}
	return c
}

// wantKept is promise 17, of a right cluster and of what became of it.
func wantKept(t *testing.T, name string, c impl.Cluster, got impl.Cluster) {
	t.Helper()
	if !impl.ClusterOk(got) {
		t.Fatalf("%s: not right: %s", name, shortly(got))
	}
	for i, r := range c.Replicas {
		wantGrown(t, fmt.Sprint(name, ", server ", i), r, got.Replicas[i])
	}
}

// checkAct holds Act against the words, and against promise 17 where the cluster was right.
func checkAct(t *testing.T, c impl.Cluster, op impl.Op) (impl.Cluster, int64) {
	t.Helper()
	want, wantCode := actByRule(c, op)
	got, code := impl.Act(c, op)
	if code != wantCode || !sameCluster(got, want) {
		t.Fatalf("%s of %s: %s and %d, not %s and %d", shortly(op), shortly(c), shortly(got), code, shortly(want), wantCode)
	}
	if code != 2 {
		wantKept(t, shortly(op), c, got)
	}
	return got, code
}

func checkPlay(t *testing.T, name string, c impl.Cluster, list []impl.Op) (impl.Cluster, []int64) {
	t.Helper()
	want, wantCodes := playByRule(c, list)
	got, codes := impl.Play(c, list)
	if !slices.Equal(codes, wantCodes) || !sameCluster(got, want) {
		t.Fatalf("%s: %s and %v, not %s and %v", name, shortly(got), codes, shortly(want), wantCodes)
	}
	return got, codes
}

func checkCalm(t *testing.T, name string, c impl.Cluster) impl.Cluster {
	t.Helper()
	want := calmByRule(c)
	got := impl.Calm(c)
	if !sameCluster(got, want) {
		t.Fatalf("%s: %s, not %s", name, shortly(got), shortly(want))
	}
	return got
}

// wantActed asks what becomes of a cluster by one Op that is done.
func wantActed(t *testing.T, name string, c impl.Cluster, op impl.Op, want impl.Cluster) {
	t.Helper()
	if !impl.ClusterOk(c) || !impl.ClusterOk(want) {
		t.Errorf("%s: not right: %v and %v", name, impl.ClusterOk(c), impl.ClusterOk(want))
	}
	if got, code := impl.Act(c, op); code != 0 || !sameCluster(got, want) {
		t.Errorf("%s: %s and %d, not %s", name, shortly(got), code, shortly(want))
	}
}

func refuseAct(t *testing.T, name string, c impl.Cluster, op impl.Op) {
	t.Helper()
	if !impl.ClusterOk(c) {
		t.Errorf("%s: not right", name)
	}
	if got, code := impl.Act(c, op); code != 1 || !sameCluster(got, c) {
		t.Errorf("%s: %s and %d", name, shortly(got), code)
	}
}

func TestConstantsOfClusters(t *testing.T) {
	if impl.MaxNet != mostNet || impl.MaxOps != mostOps {
		t.Fatal(impl.MaxNet, impl.MaxOps)
	}
	kinds := []int64{impl.OpPropose, impl.OpTimeout, impl.OpRestart, impl.OpDeliver, impl.OpLose, impl.OpTwice, impl.OpLie}
	if !slices.Equal(kinds, rising(1, 7)) {
		t.Fatal(kinds)
	}
}

func TestNewCluster(t *testing.T) {
	right := 0
	for _, n := range slices.Concat(noServers, someServers, farNumbers, []int64{-7, -4, -1, 0, 1, 2, 3, 4, 5, 6, 7, 8, 9}) {
		got, is := impl.NewCluster(n)
		want := impl.Cluster{}
		if quorumByRule(n) > 0 {
			want = newCluster(n)
			right++
		}
		if is != (quorumByRule(n) > 0) || !sameCluster(got, want) || impl.ClusterOk(got) != is {
			t.Errorf("of %d: %s and %v", n, shortly(got), is)
		}
	}
	if right != 6 {
		t.Fatal(right)
	}
}

// anyFields are messages to this server of which some field is anything at all.
func anyFields(to int64, n int64) map[string]impl.Message {
	messages := map[string]impl.Message{"zero": {To: to}}
	for _, number := range append(farNumbers, -1, 0, 1, 2, 3, 4, 7, 8, 150, mostView, mostView+1) {
		for what, m := range map[string]impl.Message{
			"Kind":          {Kind: number},
			"From":          {Kind: 1, From: number},
			"View":          {Kind: 3, From: 1, View: number},
			"Block's View":  {Kind: 1, Block: impl.Block{View: number}},
			"Block's By":    {Kind: 1, Block: impl.Block{View: 1, By: number}},
			"Vote's Name":   {Kind: 2, Vote: impl.Vote{View: 1, Name: number}},
			"Vote's By":     {Kind: 2, Vote: impl.Vote{View: 1, Name: 2, By: number}},
			"Proof's Name":  {Kind: 3, Proof: impl.Proof{View: 1, Name: number}},
			"Proof's first": {Kind: 3, Proof: impl.Proof{By: []int64{number}, Tags: []int64{1, number}}},
		} {
			m.To = to
			messages[fmt.Sprint(what, " ", number)] = m
		}
	}
	wide := proofOf(3, 4, slices.Repeat(serversTo(n), 100)...)
	messages["long lists"] = impl.Message{Kind: 1, To: to, Proof: wide, Block: impl.Block{Proof: wide, Moves: repeated(sized(100), 300)}}
	messages["from itself"] = proposal(to, to, chainOf(n, 1)[0])
	return messages
}

// busy is what a new cluster becomes that loses no message, with some under way at last.
func busy(n int64) impl.Cluster {
	c := newCluster(n)
	for view := int64(1); view <= 5; view++ {
		c, _ = actByRule(calmByRule(c), impl.Op{Kind: 1, Server: view % n, Moves: []string{fmt.Sprint("m", view)}})
	}
	for _, op := range []impl.Op{{Kind: 2, Server: 0}, {Kind: 4, Index: 1}, {Kind: 6, Index: 0}, {Kind: 2, Server: n - 1}, {Kind: 6, Index: 2}} {
		c, _ = actByRule(c, op)
	}
	return c
}

// rightClusters are those of n servers.
func rightClusters(n int64) map[string]impl.Cluster {
	fresh, some := newCluster(n), someCluster(n)
	last, b := n-1, chainOf(n, 1)[0]
	clusters := map[string]impl.Cluster{
		"new":                       fresh,
		"new, of empty lists":       onNet(clusterAs(fresh, func(c *impl.Cluster) { c.Net = []impl.Message{} })),
		"some":                      some,
		"busy":                      busy(n),
		"one message":               onNet(some, idle(1, n)...),
		"two alike":                 onNet(fresh, proposal(last, 0, b), proposal(last, 0, b)),
		"149 messages":              onNet(fresh, idle(149, n)...),
		"150 messages":              onNet(fresh, idle(150, n)...),
		"150 messages, and some":    onNet(some, idle(150, n)...),
		"150 zero messages":         onNet(some, make([]impl.Message, 150)...),
		"150 Blocks":                onNet(fresh, slices.Repeat([]impl.Message{proposal(last, 0, b)}, 150)...),
		"all to the last one":       onNet(busy(n), slices.Repeat([]impl.Message{newsTo(0, last, n+last, impl.Proof{})}, 100)...),
		"what is under way is many": onNet(busy(n), idle(150-len(busy(n).Net), n)...),
	}
	for name, r := range rightReplicas(n) {
		clusters["right: "+name] = withOne(fresh, r.Id, r)
		clusters["right among some: "+name] = onNet(withOne(some, r.Id, r), idle(2, n)...)
	}
	all := fresh
	for name, m := range anyFields(last, n) {
		clusters["a message: "+name] = onNet(fresh, idle(1, n)[0], m)
		if len(all.Net) < 150 {
			all = onNet(all, m)
		}
	}
	clusters["messages with anything"] = all
	return clusters
}

// wrongClusters fail in one way each, as far as may be.
func wrongClusters(n int64) map[string]impl.Cluster {
	fresh, some := newCluster(n), someCluster(n)
	clusters := map[string]impl.Cluster{
		"zero":                       {},
		"of empty lists":             {Replicas: []impl.Replica{}, Net: []impl.Message{}},
		"no Replica, but a message":  {Net: make([]impl.Message, 1)},
		"zero Replicas":              {Replicas: make([]impl.Replica, n)},
		"151 messages":               onNet(fresh, idle(151, n)...),
		"151 zero messages":          onNet(some, make([]impl.Message, 151)...),
		"300 messages":               onNet(fresh, idle(300, n)...),
		"one Replica more":           clusterAs(fresh, func(c *impl.Cluster) { c.Replicas = append(c.Replicas, newOf(n, n)) }),
		"the first one once more":    clusterAs(fresh, func(c *impl.Cluster) { c.Replicas = append(c.Replicas, newOf(0, n)) }),
		"the first one is not there": clusterAs(some, func(c *impl.Cluster) { c.Replicas = c.Replicas[1:] }),
		"the last one is not there":  clusterAs(some, func(c *impl.Cluster) { c.Replicas = c.Replicas[:n-1] }),
	}
	for _, count := range []int64{0, 1, 2, 3, 4, 5, 6, 7, 8, 9, 14} {
		for _, of := range append(noServers, someServers...) {
			if count == of && quorumByRule(count) > 0 {
				continue
			}
			c := impl.Cluster{}
			for id := range count {
				c.Replicas = append(c.Replicas, newOf(id, of))
			}
			clusters[fmt.Sprint(count, " of ", of)] = c
		}
	}
	for a := range n {
		for b := range a {
			clusters[fmt.Sprint(a, " and ", b, " changed places")] = clusterAs(some, func(c *impl.Cluster) {
				c.Replicas[a], c.Replicas[b] = c.Replicas[b], c.Replicas[a]
			})
		}
		for _, id := range append(farNumbers, a-1, a+1, a-n, a+n, n, -1) {
			clusters[fmt.Sprint("Id ", id, " at ", a)] = clusterAs(fresh, func(c *impl.Cluster) { c.Replicas[a].Id = id })
		}
		for _, other := range append(farNumbers, 0, 1, 2, 3, 4, 5, 6, 7, 8, n-1, n+1, -n) {
			if other != n {
				clusters[fmt.Sprint("N ", other, " at ", a)] = clusterAs(fresh, func(c *impl.Cluster) { c.Replicas[a].N = other })
			}
		}
	}
	for what, r := range wrongReplicas(n) {
		place := max(0, min(r.Id, n-1))
		clusters["a Replica: "+what] = withOne(some, place, r)
		if r.Id == place {
			clusters["a Replica, the last one: "+what] = clusterAs(fresh, func(c *impl.Cluster) {
				r.Id = n - 1
				c.Replicas[n-1] = r
			})
		}
	}
	for _, to := range append(farNumbers, -1, -2, -n, n, n+1, 7, 8) {
		m := impl.Message{Kind: 1, From: 0, To: to}
		clusters[fmt.Sprint("a message to ", to)] = onNet(fresh, m)
		clusters[fmt.Sprint("a message to ", to, ", first")] = onNet(onNet(some, m), idle(149, n)...)
		clusters[fmt.Sprint("a message to ", to, ", last")] = onNet(onNet(some, idle(149, n)...), m)
		clusters[fmt.Sprint("a message to ", to, ", among others")] = onNet(onNet(onNet(busy(n), idle(3, n)...), m), idle(3, n)...)
	}
	return clusters
}

func TestClusterOkOfRightClusters(t *testing.T) {
	for _, n := range someServers {
		for name, c := range rightClusters(n) {
			if !impl.ClusterOk(c) || !clusterByRule(c) {
				t.Errorf("of %d, %s: not right: %s", n, name, shortly(c))
			}
		}
		if len(busy(n).Net) == 0 && n > 1 || len(busy(n).Replicas[0].Done) == 0 {
			t.Errorf("of %d: not busy: %s", n, shortly(busy(n)))
		}
	}
}

func TestClusterOkOfWrongClusters(t *testing.T) {
	for _, n := range someServers {
		for name, c := range wrongClusters(n) {
			if impl.ClusterOk(c) || clusterByRule(c) {
				t.Errorf("of %d, %s: right: %s", n, name, shortly(c))
			}
		}
	}
}

// bareOps are of each Kind and of none, and of what has this number, there or not.
func bareOps(number int64) []impl.Op {
	list := []impl.Op{}
	for kind := int64(-1); kind <= 8; kind++ {
		list = append(list, impl.Op{Kind: kind, Server: number, Index: number, Message: impl.Message{Kind: 1, To: number}})
	}
	return list
}

// What is not right is the zero cluster after whatever is asked: that is told ahead of an Op that is wrong too.
func TestWrongClustersAreAnsweredByNothing(t *testing.T) {
	zero, at := impl.Cluster{}, 0
	for _, n := range someServers {
		for name, c := range wrongClusters(n) {
			ops := bareOps([]int64{-1, 0, 1, 9}[at%4])
			at++
			for _, op := range ops {
				if got, code := impl.Act(c, op); code != 2 || !sameCluster(got, zero) {
					t.Errorf("of %d, %s: %s: %s and %d", n, name, shortly(op), shortly(got), code)
				}
			}
			for _, list := range [][]impl.Op{nil, ops[:1], ops, slices.Repeat(ops[2:3], 300), slices.Repeat(ops[2:3], 301)} {
				if got, codes := impl.Play(c, list); len(codes) > 0 || !sameCluster(got, zero) {
					t.Errorf("of %d, %s: %d Ops: %s and %v", n, name, len(list), shortly(got), codes)
				}
			}
			if got := impl.Calm(c); !sameCluster(got, zero) {
				t.Errorf("of %d, %s: calm: %s", n, name, shortly(got))
			}
		}
	}
}

// toAll is what goes out with a Block, by the server whose turn it is: it goes to all others, and its Vote goes to the next one.
func toAll(n int64, b impl.Block) []impl.Message {
	list := []impl.Message{}
	for _, to := range serversTo(n) {
		if to != b.By {
			list = append(list, proposal(b.By, to, b))
		}
	}
	return append(list, ballotTo((b.View+1)%n, voteFor(b, b.By)))
}

func TestActOfPropose(t *testing.T) {
	for _, n := range []int64{4, 7} {
		c := newCluster(n)
		for _, server := range append(farNumbers, append(serversTo(n), -n, -2, -1, n, n+1, n+2)...) {
			op := impl.Op{Kind: impl.OpPropose, Server: server, Moves: []string{"m"}}
			name := fmt.Sprint("server ", server, " of ", n)
			if server != 1 {
				refuseAct(t, name, c, op)
				continue
			}
			b := onHigh(c.Replicas[1], "m")
			want := onNet(withOne(c, 1, proposed(c.Replicas[1], b)), toAll(n, b)...)
			wantActed(t, name, c, op, want)
			refuseAct(t, name+", twice in a View", want, op)
			// What is under way already stays ahead.
			wantActed(t, name+", behind others", onNet(c, idle(9, n)...), op, onNet(withOne(onNet(c, idle(9, n)...), 1, want.Replicas[1]), toAll(n, b)...))
		}
	}
}

// Of n servers n messages go out: those that find room are the first ones.
func TestActOfProposeWhereThereIsRoomForAPart(t *testing.T) {
	for _, n := range []int64{4, 7} {
		fresh := newCluster(n)
		b := onHigh(fresh.Replicas[1], "m", "n")
		sent := toAll(n, b)
		for count := 150 - len(sent) - 2; count <= 150; count++ {
			c := onNet(fresh, idle(count, n)...)
			want := onNet(withOne(c, 1, proposed(c.Replicas[1], b)), sent[:min(len(sent), 150-count)]...)
			wantActed(t, fmt.Sprint(count, " messages of ", n), c, impl.Op{Kind: impl.OpPropose, Server: 1, Moves: b.Moves}, want)
		}
	}
}

func TestActOfProposeByMoves(t *testing.T) {
	for _, n := range someServers {
		c := newCluster(n)
		for name, x := range map[string]struct {
			moves []string
			code  int64
		}{
			"none":              {nil, 0},
			"of an empty list":  {[]string{}, 0},
			"one of nothing":    {[]string{""}, 0},
			"any bytes":         {[]string{"\xff\x00", "m"}, 0},
			"ten of 60 bytes":   {repeated(sized(60), 10), 0},
			"eleven":            {repeated("m", 11), 1},
			"eleven of nothing": {repeated("", 11), 1},
			"61 bytes":          {[]string{sized(61)}, 1},
			"61 bytes, at last": {append(repeated("m", 9), sized(61)), 1},
		} {
			got, code := checkAct(t, c, impl.Op{Kind: impl.OpPropose, Server: 1 % n, Moves: x.moves})
			if code != x.code || code == 1 && !sameCluster(got, c) {
				t.Errorf("of %d, %s: %s and %d", n, name, shortly(got), code)
			}
			if code == 0 && !slices.Equal(got.Replicas[1%n].Blocks[0].Moves, x.moves) {
				t.Errorf("of %d, %s: %s", n, name, shortly(got))
			}
		}
	}
}

// One server alone takes at once what it sends: nothing is under way ever.
func TestActOfOneServerAlone(t *testing.T) {
	c := newCluster(1)
	b := onHigh(c.Replicas[0], "m")
	done := impl.Replica{N: 1, View: 2, Voted: 1, Proposed: 1, High: proofFor(b, 1), Blocks: []impl.Block{b}, Votes: []impl.Vote{voteFor(b, 0)}}
	wantActed(t, "propose", c, impl.Op{Kind: impl.OpPropose, Moves: b.Moves}, clusterOf(done))
	late := impl.Replica{N: 1, View: 2, News: []impl.News{{View: 2}}}
	wantActed(t, "timeout", c, impl.Op{Kind: impl.OpTimeout}, clusterOf(late))
	wantActed(t, "restart", clusterOf(late), impl.Op{Kind: impl.OpRestart}, clusterOf(replicaAs(late, func(r *impl.Replica) { r.News = nil })))
	full := onNet(c, idle(150, 1)...)
	wantActed(t, "propose with a full net", full, impl.Op{Kind: impl.OpPropose, Moves: b.Moves}, withOne(full, 0, done))
	// Whom a message is from there is nobody but the server itself, so none is heard.
	for name, m := range anyFields(0, 1) {
		wantActed(t, name, onNet(c, m), impl.Op{Kind: impl.OpDeliver}, c)
	}
	for kind := impl.OpPropose; kind <= impl.OpRestart; kind++ {
		for _, server := range append(farNumbers, -1, 1, 2) {
			refuseAct(t, fmt.Sprint("Kind ", kind, " of ", server), c, impl.Op{Kind: int64(kind), Server: server})
		}
	}
}

func TestActOfTimeout(t *testing.T) {
	for _, n := range []int64{4, 7} {
		fresh, some := newCluster(n), someCluster(n)
		for id := range n {
			op := impl.Op{Kind: impl.OpTimeout, Server: id}
			for count := range 3 {
				c := onNet(fresh, idle(148+count, n)...)
				want := clusterAs(c, func(c *impl.Cluster) { c.Replicas[id].View = 2 })
				if id == 2 {
					want.Replicas[id].News = []impl.News{{View: 2, From: 2}}
				} else if count < 2 {
					want = onNet(want, newsTo(id, 2, 2, impl.Proof{}))
				}
				wantActed(t, fmt.Sprint("server ", id, " of ", n, " and ", 148+count), c, op, want)
			}
			// With High, to the server whose turn is next.
			high := some.Replicas[id].High
			want := clusterAs(some, func(c *impl.Cluster) { c.Replicas[id].View = 8 })
			if id == 8%n {
				// What it sends to itself it takes: the Proof it knows, and the News, where they are not there yet.
				want.Replicas[id].Locked = 3
				if n == 7 {
					want.Replicas[id].News = append(want.Replicas[id].News, impl.News{View: 8, From: id})
				}
			} else {
				want = onNet(want, newsTo(id, 8%n, 8, high))
			}
			wantActed(t, fmt.Sprint("some, server ", id, " of ", n), some, op, want)
			// At MaxView it is done, though it changes nothing.
			last := clusterAs(some, func(c *impl.Cluster) { c.Replicas[id].View = mostView })
			wantActed(t, fmt.Sprint("at MaxView, server ", id, " of ", n), last, op, last)
		}
		for _, server := range append(farNumbers, -n, -2, -1, n, n+1) {
			refuseAct(t, fmt.Sprint("server ", server, " of ", n), some, impl.Op{Kind: impl.OpTimeout, Server: server})
		}
	}
}

func TestActOfRestart(t *testing.T) {
	for _, n := range someServers {
		for name, c := range map[string]impl.Cluster{"new": newCluster(n), "some": someCluster(n), "busy": busy(n), "full": onNet(someCluster(n), idle(150, n)...)} {
			for id := range n {
				want := clusterAs(c, func(c *impl.Cluster) { c.Replicas[id].Votes, c.Replicas[id].News = nil, nil })
				op := impl.Op{Kind: impl.OpRestart, Server: id}
				wantActed(t, fmt.Sprint(name, ", server ", id, " of ", n), c, op, want)
				wantActed(t, fmt.Sprint(name, ", server ", id, " of ", n, ", again"), want, op, want)
			}
			for _, server := range append(farNumbers, -n, -2, -1, n, n+1) {
				refuseAct(t, fmt.Sprint(name, ", server ", server, " of ", n), c, impl.Op{Kind: impl.OpRestart, Server: server})
			}
		}
	}
}

// underWay are messages among four new servers, and what becomes of the one that hears each of them.
func underWay() (impl.Cluster, []impl.Replica, [][]impl.Message) {
	c, b := newCluster(4), chainOf(4, 1)[0]
	voted := func(id int64) impl.Replica {
		return replicaAs(withBlocks(id, 4, b), func(r *impl.Replica) { r.Voted = 1 })
	}
	messages := []impl.Message{
		proposal(1, 0, b),
		proposal(0, 3, b),
		newsTo(3, 2, 2, impl.Proof{}),
		ballotTo(2, voteFor(b, 0)),
		{Kind: 0, From: 0, To: 1},
		proposal(1, 1, b),
		proposal(4, 2, b),
		proposal(3, 2, b),
		proposal(1, 0, b),
	}
	heard := []impl.Replica{
		voted(0),
		voted(3),
		replicaAs(newOf(2, 4), func(r *impl.Replica) { r.News = newsFor(2, 4)[3:] }),
		newOf(2, 4),
		newOf(1, 4),
		newOf(1, 4),
		newOf(2, 4),
		replicaAs(voted(2), func(r *impl.Replica) { r.Votes = []impl.Vote{voteFor(b, 2)} }),
		voted(0),
	}
	sent := make([][]impl.Message, len(messages))
	for _, at := range []int{0, 8} {
		sent[at] = []impl.Message{ballotTo(2, voteFor(b, 0))}
	}
	sent[1] = []impl.Message{ballotTo(2, voteFor(b, 3))}
	return onNet(c, messages...), heard, sent
}

func TestActOfDeliver(t *testing.T) {
	c, heard, sent := underWay()
	size := len(c.Net)
	for at, r := range heard {
		left := clusterAs(withOne(c, r.Id, r), func(c *impl.Cluster) { c.Net = slices.Delete(c.Net, at, at+1) })
		op := impl.Op{Kind: impl.OpDeliver, Index: int64(at)}
		wantActed(t, fmt.Sprint("message ", at), c, op, onNet(left, sent[at]...))
		// With as many others as there may be: what is taken makes room for what is sent.
		for _, count := range []int{149, 150} {
			others := idle(count-size, 4)
			wantActed(t, fmt.Sprint("message ", at, " of ", count), onNet(c, others...), op, onNet(onNet(left, others...), sent[at]...))
			ahead := clusterAs(c, func(c *impl.Cluster) { c.Net = slices.Concat(others, c.Net) })
			want := clusterAs(left, func(c *impl.Cluster) { c.Net = slices.Concat(others, c.Net, sent[at]) })
			op := impl.Op{Kind: impl.OpDeliver, Index: int64(at + len(others))}
			wantActed(t, fmt.Sprint("message ", op.Index, " of ", count), ahead, op, want)
		}
	}
}

func TestActOfLose(t *testing.T) {
	c, _, _ := underWay()
	for _, c := range []impl.Cluster{c, busy(4), onNet(newCluster(7), idle(1, 7)...), onNet(c, idle(141, 4)...), onNet(newCluster(1), idle(150, 1)...)} {
		for at := range c.Net {
			want := clusterAs(c, func(c *impl.Cluster) { c.Net = slices.Delete(c.Net, at, at+1) })
			wantActed(t, fmt.Sprint("message ", at, " of ", len(c.Net)), c, impl.Op{Kind: impl.OpLose, Index: int64(at)}, want)
		}
	}
}

// Once more at the end; where there is no room, what would come there is lost, and that is done.
func TestActOfTwice(t *testing.T) {
	c, _, _ := underWay()
	for _, c := range []impl.Cluster{c, busy(4), onNet(newCluster(7), idle(1, 7)...), onNet(c, idle(139, 4)...), onNet(c, idle(140, 4)...), onNet(c, idle(141, 4)...), onNet(newCluster(1), idle(149, 1)...)} {
		for at, m := range c.Net {
			want := c
			if len(c.Net) < 150 {
				want = onNet(c, m)
			}
			wantActed(t, fmt.Sprint("message ", at, " of ", len(c.Net)), c, impl.Op{Kind: impl.OpTwice, Index: int64(at)}, want)
		}
	}
}

func TestActOfMessagesThatAreNotThere(t *testing.T) {
	c, _, _ := underWay()
	for kind := impl.OpDeliver; kind <= impl.OpTwice; kind++ {
		for _, c := range []impl.Cluster{newCluster(1), newCluster(4), newCluster(7), c, busy(7), onNet(c, idle(140, 4)...), onNet(c, idle(141, 4)...)} {
			size := int64(len(c.Net))
			for _, index := range append(farNumbers, -size, -2, -1, size, size+1, 2*size, 150, 151, 256+size) {
				if index < 0 || index >= size {
					refuseAct(t, fmt.Sprint("Kind ", kind, ", message ", index, " of ", size), c, impl.Op{Kind: int64(kind), Index: index})
				}
			}
		}
	}
}

// A lie comes into Net as it is, from whomever and of whatever Kind, where there is one it goes to.
func TestActOfLie(t *testing.T) {
	for _, n := range someServers {
		fresh, some := newCluster(n), someCluster(n)
		b := chainOf(n, 1)[0]
		for to := range n {
			lies := anyFields(to, n)
			lies["a Block"] = proposal((to+1)%n, to, b)
			lies["a Vote"] = ballotTo(to, voteFor(b, (to+1)%n))
			lies["a Vote in another's name"] = impl.Message{Kind: impl.MsVote, From: to, To: to, Vote: voteFor(b, (to+1)%n)}
			lies["News"] = newsTo((to+1)%n, to, n+to, proofFor(b, n))
			for name, m := range lies {
				op := impl.Op{Kind: impl.OpLie, Message: m}
				wantActed(t, fmt.Sprint(name, " to ", to, " of ", n), fresh, op, onNet(fresh, m))
			}
			m := lies["a Block"]
			op := impl.Op{Kind: impl.OpLie, Message: m}
			for count := 148; count <= 150; count++ {
				c := onNet(some, idle(count, n)...)
				wantActed(t, fmt.Sprint("to ", to, " of ", n, ", behind ", count), c, op, onNet(c, []impl.Message{m}[:min(1, 150-count)]...))
			}
		}
		for _, to := range append(farNumbers, -n, -2, -1, n, n+1, 7, 8) {
			for name, m := range anyFields(to, n) {
				refuseAct(t, fmt.Sprint(name, " to ", to, " of ", n), fresh, impl.Op{Kind: impl.OpLie, Message: m})
			}
			refuseAct(t, fmt.Sprint("to ", to, " of ", n, ", where there is no room"), onNet(some, idle(150, n)...), impl.Op{Kind: impl.OpLie, Message: impl.Message{To: to}})
		}
	}
}

// What comes by a lie is heard as if it had been sent.
func TestLiesAreHeard(t *testing.T) {
	c, b := newCluster(4), chainOf(4, 1, 2)
	script := []impl.Op{
		{Kind: impl.OpLie, Message: proposal(3, 2, b[0])},
		{Kind: impl.OpDeliver},
		{Kind: impl.OpLie, Message: ballotTo(2, voteFor(b[0], 0))},
		{Kind: impl.OpLie, Message: impl.Message{Kind: impl.MsVote, From: 3, To: 2, Vote: voteFor(b[0], 1)}},
		{Kind: impl.OpDeliver, Index: 1},
		{Kind: impl.OpDeliver},
	}
	got, codes := impl.Play(c, script)
	want := withOne(c, 2, replicaAs(withBlocks(2, 4, b[0]), func(r *impl.Replica) {
		r.View, r.Voted, r.High = 2, 1, proofForBy(b[0], 0, 1, 2)
		r.Votes = []impl.Vote{voteFor(b[0], 2), voteFor(b[0], 1), voteFor(b[0], 0)}
	}))
	if !slices.Equal(codes, make([]int64, 6)) || !sameCluster(got, want) {
		t.Fatalf("%s and %v", shortly(got), codes)
	}
}

func TestActOfNoKind(t *testing.T) {
	for _, n := range someServers {
		for name, c := range map[string]impl.Cluster{"new": newCluster(n), "some": someCluster(n), "busy": busy(n), "full": onNet(newCluster(n), idle(150, n)...)} {
			for _, kind := range append(farNumbers, -7, -4, -2, -1, 0, 8, 9, 10, 255, 256, 257, 263) {
				refuseAct(t, fmt.Sprint(name, " of ", n, ", Kind ", kind), c, impl.Op{Kind: kind, Server: 1 % n, Message: idle(1, n)[0]})
			}
		}
	}
}

// The Kind tells what counts of an Op: all else may be anything.
func TestActPassesOverWhatTheKindDoesNotTellOf(t *testing.T) {
	c, _, _ := underWay()
	bare := []impl.Op{
		{Kind: impl.OpPropose, Server: 1, Moves: []string{"m"}},
		{Kind: impl.OpPropose, Server: 2, Moves: []string{"m"}},
		{Kind: impl.OpTimeout, Server: 3},
		{Kind: impl.OpTimeout, Server: 4},
		{Kind: impl.OpRestart, Server: 0},
		{Kind: impl.OpDeliver, Index: 8},
		{Kind: impl.OpDeliver, Index: 9},
		{Kind: impl.OpLose, Index: 7},
		{Kind: impl.OpTwice, Index: 6},
		{Kind: impl.OpLie, Message: impl.Message{To: 3}},
		{Kind: impl.OpLie, Message: impl.Message{To: 4}},
		{Kind: 0},
		{Kind: 8},
	}
	for _, number := range append(farNumbers, -1, 0, 1, 3, 4, 9) {
		for _, op := range bare {
			wide := impl.Op{Kind: op.Kind, Server: number, Index: number, Moves: repeated(sized(61), 11), Message: impl.Message{Kind: 1, To: number}}
			switch op.Kind {
			case impl.OpPropose:
				wide.Server, wide.Moves = op.Server, op.Moves
			case impl.OpTimeout, impl.OpRestart:
				wide.Server = op.Server
			case impl.OpDeliver, impl.OpLose, impl.OpTwice:
				wide.Index = op.Index
			case impl.OpLie:
				wide.Message = op.Message
			}
			want, wantCode := checkAct(t, c, op)
			got, code := impl.Act(c, wide)
			if code != wantCode || !sameCluster(got, want) {
				t.Errorf("%s: %s and %d", shortly(wide), shortly(got), code)
			}
		}
	}
}

// edgeOps are of each Kind and of none, at each server, and at each end of Net and past it.
func edgeOps(c impl.Cluster) []impl.Op {
	list := []impl.Op{{}, {Kind: 8}, {Kind: -1}}
	n, size := int64(len(c.Replicas)), int64(len(c.Net))
	for server := int64(-1); server <= n; server++ {
		for kind := int64(1); kind <= 3; kind++ {
			list = append(list, impl.Op{Kind: kind, Server: server, Moves: []string{"m"}})
		}
		list = append(list, impl.Op{Kind: 7, Message: proposal(server+1, server, chainOf(n, 1)[0])})
	}
	for _, index := range []int64{-1, 0, 1, size / 2, size - 1, size, size + 1} {
		for kind := int64(4); kind <= 6; kind++ {
			list = append(list, impl.Op{Kind: kind, Index: index})
		}
	}
	return list
}

func TestRightClustersByRule(t *testing.T) {
	source := rand.New(rand.NewSource(84))
	for _, n := range someServers {
		for name, c := range rightClusters(n) {
			ops := edgeOps(c)
			for _, op := range ops {
				// Of the many that are alike but for one thing, each has some of them.
				if !strings.Contains(name, ": ") || source.Intn(9) == 0 {
					checkAct(t, c, op)
				}
			}
			got, codes := checkPlay(t, name, c, ops)
			if len(codes) != len(ops) {
				t.Errorf("of %d, %s: %v", n, name, codes)
			}
			wantKept(t, name, c, got)
			wantKept(t, name+", calm", c, checkCalm(t, name, c))
		}
	}
}

// Play is Act of each Op, one behind the other, whatever comes of each.
func TestPlayOfSomeOps(t *testing.T) {
	c := newCluster(4)
	script := []impl.Op{
		{Kind: impl.OpPropose, Server: 0},
		{Kind: impl.OpPropose, Server: 1, Moves: []string{"m"}},
		{Kind: impl.OpPropose, Server: 1, Moves: []string{"m"}},
		{Kind: impl.OpTwice, Index: 3},
		{Kind: impl.OpDeliver, Index: 5},
		{Kind: impl.OpDeliver, Index: 1},
		{Kind: impl.OpLose, Index: 0},
		{Kind: 9},
		{Kind: impl.OpTimeout, Server: 3},
		{Kind: impl.OpRestart, Server: -1},
		{Kind: impl.OpLie, Message: impl.Message{To: 4}},
		{Kind: impl.OpLie, Message: impl.Message{To: 3}},
	}
	b := onHigh(c.Replicas[1], "m")
	voted := replicaAs(withBlocks(2, 4, b), func(r *impl.Replica) { r.Voted, r.Votes = 1, []impl.Vote{voteFor(b, 2)} })
	want := withOne(withOne(withOne(c, 1, proposed(c.Replicas[1], b)), 2, voted), 3, replicaAs(c.Replicas[3], func(r *impl.Replica) { r.View = 2 }))
	want = onNet(want, proposal(1, 3, b), ballotTo(2, voteFor(b, 1)), ballotTo(2, voteFor(b, 1)), newsTo(3, 2, 2, impl.Proof{}), impl.Message{To: 3})
	got, codes := checkPlay(t, "some", c, script)
	if !slices.Equal(codes, []int64{1, 0, 1, 0, 1, 0, 0, 1, 0, 1, 1, 0}) || !sameCluster(got, want) {
		t.Fatalf("%s and %v", shortly(got), codes)
	}
	// Each first part of the script tells the first of the codes.
	for size := range script {
		_, first := checkPlay(t, fmt.Sprint("the first ", size), c, script[:size])
		if !slices.Equal(first, codes[:size]) {
			t.Errorf("the first %d: %v", size, first)
		}
	}
}

func TestPlayOfNoOps(t *testing.T) {
	for _, n := range someServers {
		for name, c := range rightClusters(n) {
			for _, list := range [][]impl.Op{nil, {}} {
				if got, codes := impl.Play(c, list); len(codes) > 0 || !sameCluster(got, c) {
					t.Errorf("of %d, %s: %s and %v", n, name, shortly(got), codes)
				}
			}
		}
	}
}

func TestPlayUpToMaxOps(t *testing.T) {
	for _, n := range someServers {
		c := newCluster(n)
		for name, op := range map[string]impl.Op{
			"of no Kind": {},
			"timeout":    {Kind: impl.OpTimeout, Server: n - 1},
			"restart":    {Kind: impl.OpRestart},
			"lie":        {Kind: impl.OpLie},
			"propose":    {Kind: impl.OpPropose, Server: 1 % n},
		} {
			for _, count := range []int{1, 2, 149, 150, 151, 299, 300} {
				got, codes := checkPlay(t, fmt.Sprint(name, ", ", count), c, slices.Repeat([]impl.Op{op}, count))
				if len(codes) != count {
					t.Errorf("of %d, %s: %d of %d", n, name, len(codes), count)
				}
				wantKept(t, name, c, got)
			}
			for _, count := range []int{301, 302, 600} {
				if got, codes := impl.Play(c, slices.Repeat([]impl.Op{op}, count)); len(codes) > 0 || !sameCluster(got, impl.Cluster{}) {
					t.Errorf("of %d, %s: %d Ops: %s and %v", n, name, count, shortly(got), codes)
				}
			}
		}
		late, _ := impl.Play(c, slices.Repeat([]impl.Op{{Kind: impl.OpTimeout, Server: n - 1}}, 300))
		if late.Replicas[n-1].View != 301 {
			t.Errorf("of %d: %s", n, shortly(late))
		}
	}
}

// All short scripts of some Ops, each Act as the words tell, and Play and Calm of the whole of it.
func TestClustersByAllShortScripts(t *testing.T) {
	b := chainOf(4, 1)[0]
	ops := []impl.Op{
		{Kind: impl.OpPropose, Server: 1, Moves: []string{"m1"}},
		{Kind: impl.OpPropose, Server: 2},
		{Kind: impl.OpTimeout, Server: 1},
		{Kind: impl.OpTimeout, Server: 2},
		{Kind: impl.OpRestart, Server: 2},
		{Kind: impl.OpDeliver},
		{Kind: impl.OpDeliver, Index: 1},
		{Kind: impl.OpDeliver, Index: 3},
		{Kind: impl.OpLose},
		{Kind: impl.OpTwice, Index: 1},
		{Kind: impl.OpLie, Message: newsTo(3, 2, 2, impl.Proof{})},
		{Kind: impl.OpLie, Message: ballotTo(2, voteFor(b, 3))},
	}
	c := newCluster(4)
	count := playAll(t, c, c, ops, nil, 4)
	if count != 1+12+12*12+12*12*12+12*12*12*12 {
		t.Fatal(count)
	}
}

// playAll goes on from what became of a cluster by a script, and tells how many scripts there were.
func playAll(t *testing.T, start impl.Cluster, c impl.Cluster, ops []impl.Op, script []impl.Op, length int) int {
	got, _ := impl.Play(start, script)
	if !sameCluster(got, c) {
		t.Fatalf("%s: %s, not %s", shortly(script), shortly(got), shortly(c))
	}
	checkCalm(t, shortly(script), c)
	count := 1
	if length > 0 {
		for _, op := range ops {
			next, _ := checkAct(t, c, op)
			count += playAll(t, start, next, ops, append(slices.Clip(script), op), length-1)
		}
	}
	return count
}

func TestCalmOfNothing(t *testing.T) {
	for _, n := range someServers {
		for name, c := range rightClusters(n) {
			if len(c.Net) == 0 && !sameCluster(impl.Calm(c), c) {
				t.Errorf("of %d, %s: %s", n, name, shortly(impl.Calm(c)))
			}
		}
	}
}

// Where all is calm after each Block, all servers know it, and all but the last ones are Done.
func TestCalmOfEachView(t *testing.T) {
	for _, n := range someServers {
		c := newCluster(n)
		for view := int64(1); view <= 20; view++ {
			next, code := checkAct(t, c, impl.Op{Kind: impl.OpPropose, Server: view % n, Moves: []string{fmt.Sprint(view)}})
			if code != 0 {
				t.Fatalf("View %d of %d: %d", view, n, code)
			}
			c = checkCalm(t, "calm", next)
			for _, r := range c.Replicas {
				done := max(0, view-3)
				if (view+1)%n == r.Id {
					done = max(0, view-2)
				}
				if r.Voted != view || int64(len(r.Blocks)) != view || int64(len(r.Done)) != done || len(c.Net) > 0 {
					t.Fatalf("View %d of %d: %s", view, n, shortly(r))
				}
			}
			wantAlike(t, c.Replicas)
		}
	}
}

// waiting has 150 Blocks under way, each to a server that hands its Vote to another one.
func waiting() impl.Cluster {
	c := newCluster(7)
	for view := int64(1); view <= 25; view++ {
		b := chainOf(7, view)[0]
		for to := range int64(7) {
			if (view+1)%7 != to {
				c = onNet(c, proposal((to+1)%7, to, b))
			}
		}
	}
	return c
}

// A Block makes one message at most, and that one makes none: so 150 make 300 at most, and these are delivered to the last one.
func TestCalmDeliversThreeHundred(t *testing.T) {
	c := waiting()
	if len(c.Net) != 150 || !impl.ClusterOk(c) {
		t.Fatal(len(c.Net))
	}
	want := newCluster(7)
	for id := range want.Replicas {
		r := &want.Replicas[id]
		for view := int64(1); view <= 25; view++ {
			if (view+1)%7 != int64(id) {
				r.Blocks = append(r.Blocks, chainOf(7, view)...)
				r.View, r.Voted = view, view
			}
		}
	}
	if got := checkCalm(t, "three hundred", c); !sameCluster(got, want) {
		t.Fatalf("%s, not %s", shortly(got), shortly(want))
	}
	// Behind 299 there is one left, and behind 150 there are the Votes alone.
	deliveries := slices.Repeat([]impl.Op{{Kind: impl.OpDeliver}}, 300)
	for count, left := range map[int]int{0: 150, 1: 150, 149: 150, 150: 150, 151: 149, 298: 2, 299: 1, 300: 0} {
		got, codes := impl.Play(c, deliveries[:count])
		if len(got.Net) != left || slices.Max(append(codes, 0)) != 0 {
			t.Errorf("behind %d: %d", count, len(got.Net))
		}
		if !sameCluster(impl.Calm(got), want) {
			t.Errorf("calm behind %d: %s", count, shortly(impl.Calm(got)))
		}
	}
	half, _ := impl.Play(c, deliveries[:150])
	if slices.ContainsFunc(half.Net, func(m impl.Message) bool { return m.Kind != impl.MsVote }) {
		t.Errorf("not Votes alone: %s", shortly(half.Net))
	}
}

// Message 0 is the one that goes, and what is sent waits behind all others.
func TestCalmGoesInOrder(t *testing.T) {
	b := chainOf(4, 1, 2)
	twice := onNet(newCluster(4), proposal(1, 0, b[0]), proposal(2, 0, b[1]))
	want := withOne(twice, 0, replicaAs(withBlocks(0, 4, b...), func(r *impl.Replica) { r.View, r.Voted, r.High = 2, 2, b[1].Proof }))
	want.Net = nil
	if got := impl.Calm(twice); !sameCluster(got, want) {
		t.Errorf("in order: %s", shortly(got))
	}
	// The other way round the second Block is not known yet when it comes.
	slices.Reverse(twice.Net)
	want = withOne(want, 0, replicaAs(withBlocks(0, 4, b[0]), func(r *impl.Replica) { r.Voted = 1 }))
	if got := impl.Calm(twice); !sameCluster(got, want) {
		t.Errorf("the other way round: %s", shortly(got))
	}
	// A Vote that is sent on the first message comes behind the Block that is under way to the same server.
	behind := onNet(newCluster(4), proposal(1, 0, b[0]), proposal(1, 2, b[0]))
	got := impl.Calm(behind)
	if r := got.Replicas[2]; !slices.Equal(r.Votes, []impl.Vote{voteFor(b[0], 2), voteFor(b[0], 0)}) {
		t.Errorf("behind a Block: %s", shortly(r))
	}
	slices.Reverse(behind.Net)
	if r := impl.Calm(behind).Replicas[2]; !sameReplica(r, got.Replicas[2]) {
		t.Errorf("ahead of a Block: %s", shortly(r))
	}
}

// anyCluster is right, whether it can come about or not.
func anyCluster(source *rand.Rand, n int64) impl.Cluster {
	c := newCluster(n)
	for i := range c.Replicas {
		if source.Intn(4) > 0 {
			r := anyReplica(source, n)
			r.Id = int64(i)
			c.Replicas[i] = r
		}
	}
	count := fewOrMany(source, mostNet)
	for range count {
		c.Net = append(c.Net, anyLie(source, c))
	}
	return c
}

// anyLie goes to one of them, and is mostly what this one might take.
func anyLie(source *rand.Rand, c impl.Cluster) impl.Message {
	r := c.Replicas[source.Intn(len(c.Replicas))]
	m := anyMessage(source, r)
	m.To = r.Id
	return m
}

// anyOp is mostly one that is done.
func anyOp(source *rand.Rand, c impl.Cluster) impl.Op {
	n, size := int64(len(c.Replicas)), int64(len(c.Net))
	op := impl.Op{Server: source.Int63n(n), Moves: repeated("m", source.Intn(3))}
	if size > 0 {
		op.Index = min(source.Int63n(size), source.Int63n(size))
	}
	switch chance := source.Intn(100); {
	case chance < 3:
		return impl.Op{Kind: source.Int63n(11) - 1, Server: source.Int63n(n+4) - 2, Index: size - 1 + source.Int63n(3), Message: impl.Message{Kind: 1, To: source.Int63n(n+4) - 2}}
	case chance < 25:
		op.Kind, op.Server = impl.OpPropose, turnOf(source, c)
	case chance < 29:
		op.Kind = impl.OpTimeout
	case chance < 31:
		op.Kind = impl.OpRestart
	case chance < 35:
		op.Kind = impl.OpLose
	case chance < 42:
		op.Kind = impl.OpTwice
	case chance < 50:
		op.Kind, op.Message = impl.OpLie, anyLie(source, c)
	default:
		op.Kind = impl.OpDeliver
	}
	return op
}

// turnOf is mostly one of those whose turn it is, as they see it.
func turnOf(source *rand.Rand, c impl.Cluster) int64 {
	n := int64(len(c.Replicas))
	id := source.Int63n(n)
	for i := range n {
		r := c.Replicas[(id+i)%n]
		if r.View%n == r.Id && r.Proposed < r.View {
			return r.Id
		}
	}
	return id
}

// Clusters as they may stand anywhere, and one Op of each kind from there.
func TestClustersOfAnyKindByRule(t *testing.T) {
	source := rand.New(rand.NewSource(80))
	counts := map[string]int{}
	for at := range 240 {
		c := anyCluster(source, someServers[at%3])
		if !impl.ClusterOk(c) || !clusterByRule(c) {
			t.Fatalf("not right: %s", shortly(c))
		}
		for range 8 {
			op := anyOp(source, c)
			_, code := checkAct(t, c, op)
			counts[fmt.Sprint("Kind ", op.Kind, ", code ", code)]++
		}
		script := []impl.Op{}
		for range source.Intn(12) {
			script = append(script, anyOp(source, c))
		}
		checkPlay(t, "any", c, script)
		if calm := checkCalm(t, "any", c); len(calm.Net) > 0 {
			t.Fatalf("not calm: %s", shortly(calm))
		}
		if len(c.Net) > 0 {
			counts["calm"]++
		}
		bent := clusterAs(c, func(c *impl.Cluster) { c.Replicas[source.Intn(len(c.Replicas))].Id++ })
		checkAct(t, bent, anyOp(source, c))
		checkPlay(t, "bent", bent, script)
		checkCalm(t, "bent", bent)
	}
	for _, name := range []string{"Kind 1, code 0", "Kind 1, code 1", "Kind 2, code 0", "Kind 3, code 0", "Kind 4, code 0", "Kind 5, code 0", "Kind 6, code 0", "Kind 7, code 0", "calm"} {
		if counts[name] < 5 {
			t.Errorf("%s: %d", name, counts[name])
		}
	}
	if testing.Verbose() {
		t.Log(counts)
	}
}

// Long drawn scripts with liars, losses, doubles and restarts: the cluster stays right after each Op, nothing falls, and Done only grows.
func TestClustersByLongScripts(t *testing.T) {
	source := rand.New(rand.NewSource(81))
	done, full, lies := 0, 0, 0
	for at := range 30 {
		n, isCrowded := someServers[at%3], at/3%3 == 1
		start := newCluster(n)
		if at/3%5 == 3 {
			start = anyCluster(source, n)
		}
		c, script, codes := start, []impl.Op{}, []int64{}
		for range mostOps {
			op := anyOp(source, c)
			if isCrowded && source.Intn(3) > 0 {
				op.Kind = impl.OpTwice
			}
			next, code := checkAct(t, c, op)
			c, script, codes = next, append(script, op), append(codes, code)
			if len(c.Net) == mostNet {
				full++
			}
			if op.Kind == impl.OpLie {
				lies++
			}
		}
		got, gotCodes := impl.Play(start, script)
		if !slices.Equal(gotCodes, codes) || !sameCluster(got, c) {
			t.Fatalf("of %d: %s and %v, not %s and %v", n, shortly(got), gotCodes, shortly(c), codes)
		}
		wantKept(t, "calm", c, checkCalm(t, "calm", c))
		for _, r := range c.Replicas {
			done += len(r.Done)
		}
	}
	if testing.Verbose() {
		t.Log(done, full, lies)
	}
	if done < 100 || lies < 100 || full < 100 {
		t.Fatal(done, full, lies)
	}
}

// Where nobody lies, no two part, whatever is lost or comes twice.
func TestClustersWithoutLiars(t *testing.T) {
	source := rand.New(rand.NewSource(82))
	done := 0
	for at := range 30 {
		n := someServers[at%3]
		c := newCluster(n)
		for range 4 {
			script := []impl.Op{}
			for range mostOps / 4 {
				op := anyOp(source, c)
				if op.Kind != impl.OpLie {
					script = append(script, op)
				}
			}
			before := c
			c, _ = checkPlay(t, "without liars", c, script)
			wantKept(t, "without liars", before, c)
			wantAlike(t, c.Replicas)
			c = checkCalm(t, "without liars", c)
			wantAlike(t, c.Replicas)
		}
		for _, r := range c.Replicas {
			done += len(r.Done)
		}
	}
	if testing.Verbose() {
		t.Log(done)
	}
	if done < 50 {
		t.Fatal(done)
	}
}

// Servers whose places for Blocks, Votes and News are full go on.
func TestClustersThatAreFull(t *testing.T) {
	for _, n := range someServers {
		full := clusterOf(slices.Repeat([]impl.Replica{replicaAs(withBlocks(0, n, manyBlocks(n, 1, 60)...), func(r *impl.Replica) {
			r.Votes, r.News = manyVotes(60), manyNews(30)
			r.View, r.High = 2, proofFor(r.Blocks[0], n)
		})}, int(n))...)
		script := []impl.Op{{Kind: impl.OpPropose, Server: 2 % n}}
		for id := range n {
			script = append(script, impl.Op{Kind: impl.OpTimeout, Server: id}, impl.Op{Kind: impl.OpLie, Message: newsTo((id+1)%n, id, n+id, proofFor(full.Replicas[0].Blocks[1], n))})
		}
		got, codes := checkPlay(t, "full", full, script)
		if slices.Max(codes) != 0 {
			t.Errorf("of %d: %v", n, codes)
		}
		wantKept(t, "full", full, got)
		wantKept(t, "full, calm", got, checkCalm(t, "full", got))
	}
}

// clusterArguments are those of all functions of the chapter.
type clusterArguments struct {
	Cluster impl.Cluster
	Op      impl.Op
	List    []impl.Op
}

func roomyMessage(m impl.Message) impl.Message {
	m.Block, m.Proof = roomyBlock(m.Block), roomyProof(m.Proof)
	return m
}

func tightMessage(m impl.Message) impl.Message {
	m.Block, m.Proof = tightBlock(m.Block), tightProof(m.Proof)
	return m
}

func roomyOp(op impl.Op) impl.Op {
	op.Moves, op.Message = roomy(op.Moves, "behind", sized(61)), roomyMessage(op.Message)
	return op
}

func tightOp(op impl.Op) impl.Op {
	op.Moves, op.Message = slices.Clip(slices.Clone(op.Moves)), tightMessage(op.Message)
	return op
}

// eachOf has what becomes of each of a list.
func eachOf[T any](list []T, change func(T) T) []T {
	out := []T{}
	for _, x := range list {
		out = append(out, change(x))
	}
	return slices.Clip(out)
}

// roomy has behind its lists what might come to them next, and what would be wrong there.
func (x clusterArguments) roomy() clusterArguments {
	c, n := &x.Cluster, int64(len(x.Cluster.Replicas))
	c.Replicas = roomy(eachOf(c.Replicas, roomyReplica), newOf(n, n), newOf(0, 1))
	c.Net = roomy(eachOf(c.Net, roomyMessage), append(idle(3, max(n, 1)), impl.Message{Kind: 1, To: -1})...)
	x.Op, x.List = roomyOp(x.Op), roomy(eachOf(x.List, roomyOp), impl.Op{Kind: impl.OpTimeout}, impl.Op{Kind: impl.OpLie})
	return x
}

func (x clusterArguments) tight() clusterArguments {
	x.Cluster.Replicas = eachOf(x.Cluster.Replicas, tightReplica)
	x.Cluster.Net = eachOf(x.Cluster.Net, tightMessage)
	x.Op, x.List = tightOp(x.Op), eachOf(x.List, tightOp)
	return x
}

// clusterAnswers are all functions of the chapter.
func clusterAnswers() map[string]func(clusterArguments) any {
	type answer struct {
		Cluster impl.Cluster
		Code    int64
		Codes   []int64
	}
	return map[string]func(clusterArguments) any{
		"ClusterOk": func(x clusterArguments) any { return impl.ClusterOk(x.Cluster) },
		"NewCluster": func(x clusterArguments) any {
			c, _ := impl.NewCluster(int64(len(x.Cluster.Replicas)))
			return c
		},
		"Act": func(x clusterArguments) any {
			c, code := impl.Act(x.Cluster, x.Op)
			return answer{c, code, nil}
		},
		"Play": func(x clusterArguments) any {
			c, codes := impl.Play(x.Cluster, x.List)
			return answer{c, 0, codes}
		},
		"Calm": func(x clusterArguments) any { return impl.Calm(x.Cluster) },
	}
}

// memoryOps are Ops of each Kind that are done, those of messages for the one at this place.
func memoryOps(c impl.Cluster, at int64) []impl.Op {
	n := int64(len(c.Replicas))
	list := []impl.Op{}
	for kind := int64(1); kind <= 6; kind++ {
		list = append(list, impl.Op{Kind: kind, Server: at % max(n, 1), Index: at, Moves: []string{"m", "n"}})
	}
	b := chainOf(n, 1, 2)[1]
	return append(list, impl.Op{}, impl.Op{Kind: 7, Message: impl.Message{Kind: 1, From: 1, Block: b, Proof: proofFor(b, n)}})
}

// clusterCases goes through the functions, with clusters that are right and not, Ops of all Kinds, and scripts.
func clusterCases(with func(name string, x clusterArguments, answer func(clusterArguments) any)) {
	source := rand.New(rand.NewSource(83))
	answers := clusterAnswers()
	all := func(name string, c impl.Cluster, ops ...impl.Op) {
		x := clusterArguments{Cluster: c, List: ops}
		for what, answer := range answers {
			if what != "Act" {
				with(name+": "+what, x, answer)
			}
		}
		x.List = nil
		for i, op := range ops {
			x.Op = op
			with(fmt.Sprint(name, ": Act ", i), x, answers["Act"])
		}
	}
	for _, n := range someServers {
		for name, c := range rightClusters(n) {
			if source.Intn(9) == 0 {
				all(fmt.Sprint("right of ", n, ": ", name), c, anyOp(source, c), anyOp(source, c))
			}
		}
		for name, c := range wrongClusters(n) {
			if source.Intn(60) == 0 {
				all(fmt.Sprint("wrong of ", n, ": ", name), c, memoryOps(newCluster(n), 0)[source.Intn(8)])
			}
		}
		for name, c := range map[string]impl.Cluster{"new": newCluster(n), "some": someCluster(n), "busy": busy(n)} {
			for at := range min(3, int64(len(c.Net))+1) {
				all(fmt.Sprint(name, " of ", n, " at ", at), c, memoryOps(c, at)...)
			}
		}
	}
	c, _, _ := underWay()
	for at := range int64(9) {
		all(fmt.Sprint("under way, ", at), c, memoryOps(c, at)...)
	}
	// Of a lie there may be many: none of them is another one.
	lie := memoryOps(c, 0)[7]
	all("a lie", newCluster(4), lie, lie, impl.Op{Kind: 6}, impl.Op{Kind: 6, Index: 1}, impl.Op{Kind: 4, Index: 2}, impl.Op{Kind: 6, Index: 1})
	for at := range 15 {
		c := anyCluster(source, someServers[at%3])
		ops := []impl.Op{}
		for range 6 {
			ops = append(ops, anyOp(source, c))
		}
		all(fmt.Sprint("any ", at), c, ops...)
	}
}

func TestClustersLeaveTheirArguments(t *testing.T) {
	clusterCases(func(name string, x clusterArguments, answer func(clusterArguments) any) {
		wantLeft(t, name, x, answer)
	})
}

func TestClustersGiveNewMemory(t *testing.T) {
	clusterCases(func(name string, x clusterArguments, answer func(clusterArguments) any) {
		wantNewMemory(t, name, x, answer)
	})
}

// What is written into an answer is in no other list of it, nor in what was given, nor in what is answered later.
func TestClustersApartFromTheirAnswers(t *testing.T) {
	b := chainOf(4, 1, 2, 3)
	lie := impl.Op{Kind: impl.OpLie, Message: impl.Message{Kind: impl.MsPropose, From: 3, To: 0, Block: blockOn(proofFor(b[0], 4), 2, 4, "m"), Proof: proofFor(b[1], 4)}}
	given := onNet(newCluster(4), proposal(1, 0, b[0]))
	script := []impl.Op{lie, lie, {Kind: impl.OpTwice, Index: 1}, {Kind: impl.OpDeliver}, {Kind: impl.OpDeliver}}
	want, _ := playByRule(given, script)
	before, beforeScript := clusterClone(given), slices.Clone(script)
	got, _ := impl.Play(given, script)
	if len(got.Net) != 4 || len(got.Replicas[0].Blocks) != 2 || !sameCluster(got, want) {
		t.Fatalf("%s", shortly(got))
	}
	for i := range got.Net[:2] {
		spoil(got.Net[i].Block.Moves, "spoilt")
		spoil(got.Net[i].Block.Proof.By, -7)
		spoil(got.Net[i].Block.Proof.Tags, -7)
		spoil(got.Net[i].Proof.By, -7)
		spoil(got.Net[i].Proof.Tags, -7)
		if !sameMessages(got.Net[i+1:], want.Net[i+1:]) || !slices.EqualFunc(got.Replicas, want.Replicas, sameReplica) {
			t.Fatalf("message %d lies in what else is answered", i)
		}
	}
	spoil(got.Net, impl.Message{})
	spoil(got.Replicas[0].Blocks, impl.Block{})
	spoil(got.Replicas, impl.Replica{})
	if !sameCluster(given, before) || asText(script) != asText(beforeScript) || asText(lie) != asText(beforeScript[0]) {
		t.Error("an argument was changed")
	}
	if again, _ := impl.Play(given, script); !sameCluster(again, want) {
		t.Error("an answer that was changed is answered again")
	}
}

// What is behind a list is no part of it, be it what is missing or what is wrong.
func TestClustersKeepOutOfTheSpareRoom(t *testing.T) {
	for _, n := range someServers {
		c := newCluster(n)
		c.Replicas = append(c.Replicas, newOf(n, n), impl.Replica{})[:n]
		c.Net = append(idle(150, n), impl.Message{To: -1})[:150]
		if !impl.ClusterOk(c) {
			t.Error("what is wrong is in the room")
		}
		if n > 1 {
			c.Replicas = newCluster(n).Replicas[:n-1]
			if impl.ClusterOk(c) {
				t.Error("a Replica is in the room")
			}
		}
		c = newCluster(n)
		c.Net = idle(3, n)[:1]
		refuseAct(t, "a message in the room", c, impl.Op{Kind: impl.OpDeliver, Index: 1})
		if got, codes := impl.Play(c, slices.Repeat([]impl.Op{{Kind: impl.OpRestart}}, 301)[:300]); len(codes) != 300 || !sameCluster(got, c) {
			t.Errorf("an Op is in the room: %s and %v", shortly(got), codes)
		}
	}
}
