package replica_test

import (
	"bytes"
	"math/rand"
	"slices"
	"testing"

	"catenary/api"
	"catenary/conf"
	"catenary/replica"
)

const (
	spares  = 9 // nodes in all: two of them begin as the chain
	desired = 3 // nodes of the chain
)

// group is the nodes of one chain, the letters in transit, and the commands that make its configurations, one after the other.
type group struct {
	t        *testing.T
	random   *rand.Rand
	nodes    [spares + 1]*replica.Replica // by numbers
	down     []int
	confs    []api.Conf // by epochs, the first of which is 1
	transit  []api.Letter
	commands []api.Cmd // reported, but not executed yet
	lost     int       // of a hundred letters
	bytes    int       // of a written value
	nums     [api.MaxClients + 1]uint64
	asked    [api.MaxClients + 1]api.Update // of a client that waits; its Num is 0 otherwise
	answered int
	pictures [spares + 1]map[uint64][]byte // by nodes and their ends
}

func newGroup(t *testing.T, random *rand.Rand, lost, bytes int) *group {
	t.Helper()
	l, _ := conf.Begin(1, 2)
	g := &group{t: t, random: random, lost: lost, bytes: bytes, confs: l}
	for node := 1; node <= spares; node++ {
		c := api.Conf{}
		if conf.Used(l, node) {
			c = l[0]
		}
		g.nodes[node] = made(t, node, c)
		g.pictures[node] = map[uint64][]byte{}
		g.look(node)
	}
	return g
}

func (g *group) present() api.Conf {
	return g.confs[len(g.confs)-1]
}

// put puts letters into transit, some of them never and some twice; what clients get is no longer delayed.
func (g *group) put(l []api.Letter) {
	for _, x := range l {
		switch at := g.random.Intn(100); {
		case at < g.lost:
		case x.Kind == api.LWrote:
			if u := &g.asked[x.To-api.Clients]; x.Num == u.Num {
				u.Num = 0
				g.answered++
			}
		case at < 2*g.lost:
			g.transit = append(g.transit, x, x)
		default:
			g.transit = append(g.transit, x)
		}
	}
}

func (g *group) runs(node int) bool {
	return !slices.Contains(g.down, node)
}

// deliver delivers the letter at i.
func (g *group) deliver(i int) {
	x := g.transit[i]
	g.transit = slices.Delete(g.transit, i, i+1)
	if g.runs(x.To) {
		g.put(g.nodes[x.To].Take(x))
		g.look(x.To)
	}
}

// write lets a client ask anew, or once more, and mostly the head.
func (g *group) write() {
	who := 1 + g.random.Intn(api.MaxClients)
	u := &g.asked[who]
	if u.Num == 0 {
		g.nums[who]++
		*u = api.Update{Client: who, Num: g.nums[who], Kind: api.Write, Key: uint32(g.random.Intn(5)), Data: make([]byte, g.random.Intn(g.bytes))}
		g.random.Read(u.Data)
	}
	c := g.confs[len(g.confs)-1-g.random.Intn(min(2, len(g.confs)))]
	to := c.Nodes[0]
	if g.random.Intn(10) == 0 {
		to = 1 + g.random.Intn(spares)
	}
	g.put([]api.Letter{ask(c, to, *u)})
}

// adopt tells a node of a configuration, mostly the present one.
func (g *group) adopt(node int) {
	c := g.present()
	if g.random.Intn(3) == 0 {
		c = g.confs[g.random.Intn(len(g.confs))]
	}
	if g.runs(node) {
		l, _ := g.nodes[node].Adopt(c)
		g.put(l)
		g.look(node)
	}
}

func (g *group) tick(node int) {
	if g.runs(node) {
		g.put(g.nodes[node].Tick())
		g.report(node)
	}
}

// report keeps the commands that the node asks for, as it stands.
func (g *group) report(node int) {
	x := g.nodes[node]
	c, r := x.Conf(), x.Role()
	add := func(kind, who int) {
		g.commands = append(g.commands, api.Cmd{Kind: kind, Chain: c.Chain, Epoch: c.Epoch, Node: who})
	}
	for _, near := range []int{r.Pred, r.Succ} {
		if near != 0 && !g.runs(near) {
			add(api.Remove, near)
		}
	}
	if x.Caught() {
		add(api.Promote, c.Join)
	}
	if r.Tail && c.Fresh && x.Open() {
		add(api.Settle, node)
	}
}

// command executes a command that was reported, or appends a node if there are too few.
func (g *group) command() {
	c := g.present()
	l := []api.Conf{c}
	if len(c.Nodes) < desired {
		for node := 1; node <= spares; node++ {
			if g.runs(node) && !conf.Used(l, node) {
				g.commands = append(g.commands, api.Cmd{Kind: api.Append, Chain: c.Chain, Epoch: c.Epoch, Node: node})
				break
			}
		}
	}
	if len(g.commands) == 0 {
		return
	}
	i := g.random.Intn(len(g.commands))
	x := g.commands[i]
	g.commands = slices.Delete(g.commands, i, i+1)
	if l, ok := conf.Do(l, x); ok {
		g.confs = append(g.confs, l[0])
	}
}

// stop stops a node, unless no settled one would be left.
func (g *group) stop() {
	node := 1 + g.random.Intn(spares)
	after := append(slices.Clone(g.down), node)
	left := slices.DeleteFunc(conf.Settled(g.present()), func(n int) bool { return slices.Contains(after, n) })
	if g.runs(node) && len(left) > 0 && len(g.down) < spares-desired {
		g.down = after
	}
}

func (g *group) step() {
	node := 1 + g.random.Intn(spares)
	switch at := g.random.Intn(1000); {
	case at < 150:
		g.tick(node)
	case at < 250:
		g.write()
	case at < 350:
		g.adopt(node)
	case at < 450:
		g.command()
	case at < 453:
		g.stop()
	case len(g.transit) > 0:
		i := 0 // as a rule the oldest ones come first
		if g.random.Intn(3) == 0 {
			i = g.random.Intn(len(g.transit))
		}
		g.deliver(i)
	}
}

// look keeps the picture of a node.
func (g *group) look(node int) {
	s := g.nodes[node].Store()
	if g.pictures[node][s.End()] == nil {
		g.pictures[node][s.End()] = s.Picture()
	}
}

// check holds that of two nodes of the chain the earlier one has everything that the later one has, and that it had the same picture at that end.
func (g *group) check() {
	c := g.present()
	members := slices.Clone(c.Nodes)
	if c.Join != 0 {
		members = append(members, c.Join)
	}
	members = slices.DeleteFunc(members, func(n int) bool { return !g.runs(n) })
	for i, later := range members {
		end := g.nodes[later].End()
		for _, earlier := range members[:i] {
			if g.nodes[earlier].End() < end {
				g.t.Fatal(conf.Text(c), earlier, "has", g.nodes[earlier].End(), "and", later, end)
			}
			had := g.pictures[earlier][end]
			if had != nil && !bytes.Equal(had, g.pictures[later][end]) {
				g.t.Fatal(conf.Text(c), earlier, "and", later, "differ at", end)
			}
		}
	}
}

// round delivers what is in transit, and then tells each node of the configuration, and lets it tick.
func (g *group) round() {
	for range len(g.transit) {
		g.deliver(0)
		g.check()
	}
	for node := 1; node <= spares; node++ {
		if g.runs(node) {
			l, _ := g.nodes[node].Adopt(g.present())
			g.put(l)
			g.tick(node)
		}
		g.check()
	}
	for range len(g.commands) + 1 {
		g.command()
	}
}

// settled reports whether the chain is as it should be, with all its nodes open, and the same everywhere.
func (g *group) settled() bool {
	c := g.present()
	if len(c.Nodes) != desired || c.Fresh || c.Join != 0 {
		return false
	}
	head := g.nodes[c.Nodes[0]]
	for _, node := range c.Nodes {
		x := g.nodes[node]
		if !g.runs(node) || !x.Open() || x.End() != head.End() || x.Done() != head.End() || !bytes.Equal(x.Store().Picture(), head.Store().Picture()) {
			return false
		}
	}
	return true
}

// P23.3, P23.4: whatever is lost, duplicated or delayed, and whichever configurations nodes know: of two nodes the earlier one has everything that the later one has; once nothing more is lost, the chain gets as many nodes as it should have, and all have the same.
func TestChainTheorem(t *testing.T) {
	random := rand.New(rand.NewSource(233))
	answered, epochs, stopped := 0, 0, 0
	for round := range 120 {
		g := newGroup(t, random, round%4*8, []int{1, 40, 2000}[round%3])
		for range 3000 {
			g.step()
			g.check()
		}
		g.lost = 0
		for n := 0; !g.settled(); n++ {
			if n == 100 {
				t.Fatal(round, "is not settled:", conf.Text(g.present()), g.down)
			}
			g.round()
		}
		answered += g.answered
		epochs += len(g.confs)
		stopped += len(g.down)
	}
	if answered < 5000 || epochs < 1000 || stopped < 400 {
		t.Error("hardly anything happened:", answered, epochs, stopped)
	}
}

// P23.4: a node that joins receives everything, be it updates, or a picture of one part or many and the updates after it, and becomes open.
func TestJoinTheorem(t *testing.T) {
	for _, bytes := range []int{1, 300, api.MaxValue} {
		for _, before := range []int{0, 1, 31, 32, 33, 34, 100} {
			g := newGroup(t, rand.New(rand.NewSource(int64(before))), 0, bytes)
			for g.answered < before {
				g.write()
				for len(g.transit) > 0 {
					g.deliver(0)
				}
			}
			for n := 0; !g.settled(); n++ {
				if n == 100 {
					t.Fatal(bytes, before, "not settled:", conf.Text(g.present()))
				}
				if n < 25 { // others write meanwhile
					g.write()
				}
				g.round()
			}
			joined := g.nodes[3]
			if c := g.present(); conf.Text(c) != "chain 0 epoch 4: 1 2 3" || !joined.Open() || joined.End() < uint64(before) {
				t.Error(bytes, before, conf.Text(c), joined.Open(), joined.End())
			}
		}
	}
}
