package caller_test

import (
	"bytes"
	"fmt"
	"math/rand"
	"slices"
	"testing"

	"catenary/api"
	"catenary/atlas"
	"catenary/caller"
	"catenary/conf"
	"catenary/letter"
	"catenary/master"
	"catenary/role"
	"catenary/server"
	"catenary/update"
)

const (
	chains  = 2
	nodes   = 9
	desired = 3 // nodes of a chain
	keys    = 6 // from 0 on
)

// request is what makes an operation of a client one of its own.
type request struct {
	client int
	num    uint64
}

// cluster is masters, nodes and callers, the letters in transit, and what was observed.
type cluster struct {
	t       *testing.T
	random  *rand.Rand
	lost    int // of a hundred letters
	masters []*master.Master
	nodes   []*server.Server
	callers []*caller.Caller
	stopped map[int]bool // by addresses
	transit []api.Letter
	ends    [chains]uint64
	asked   map[request]api.Op
	effects map[request]api.Reply // what the chains made of the requests, as their tails know it
	values  [keys][][]byte        // what the keys were set to, by versions from 1 on
	least   map[int]uint64        // the version that a client's read must have at least, by clients
	answers int                   // to writes and compares
	repeats int                   // how often an operation was sent again
	late    int                   // answers that came to a caller that had nothing in progress
}

func newCluster(t *testing.T, random *rand.Rand, lost int) *cluster {
	t.Helper()
	l, _ := conf.Begin(chains, 2)
	w := &cluster{t: t, random: random, lost: lost, stopped: map[int]bool{}, asked: map[request]api.Op{}, effects: map[request]api.Reply{}, least: map[int]uint64{}}
	for i := range masters {
		m, _ := master.New(i+1, masters, nodes, desired, l)
		w.masters = append(w.masters, m)
	}
	for i := range nodes {
		at := slices.IndexFunc(l, func(x api.Conf) bool { return slices.Contains(x.Nodes, i+1) })
		own := api.Conf{}
		if at >= 0 {
			own = l[at]
		}
		s, e := server.New(i+1, masters, own)
		if e != api.OK {
			t.Fatal(i, int(e))
		}
		w.nodes = append(w.nodes, s)
	}
	for i := range api.MaxClients {
		c, e := caller.New(i+1, masters, l)
		if e != api.OK {
			t.Fatal(i, int(e))
		}
		w.callers = append(w.callers, c)
	}
	return w
}

// put puts letters into transit, some of them never and some twice.
func (w *cluster) put(l []api.Letter) {
	for _, x := range l {
		if letter.Check(x) != api.OK {
			w.t.Fatal("not valid:", tell(x))
		}
		switch at := w.random.Intn(100); {
		case at < w.lost:
		case at < 2*w.lost:
			w.transit = append(w.transit, x, x)
		default:
			w.transit = append(w.transit, x)
		}
	}
}

func (w *cluster) down() []int {
	var l []int
	for i := range w.nodes {
		if w.stopped[i+1] {
			l = append(l, i+1)
		}
	}
	return l
}

// confs are the configurations with the greatest epoch that any master knows.
func (w *cluster) confs() []api.Conf {
	l := make([]api.Conf, chains)
	for chain := range l {
		for _, m := range w.masters {
			if c, _ := m.Log().Conf(chain); c.Epoch > l[chain].Epoch {
				l[chain] = c
			}
		}
	}
	return l
}

// deliver delivers the letter at i.
func (w *cluster) deliver(i int) {
	x := w.transit[i]
	w.transit = slices.Delete(w.transit, i, i+1)
	if w.stopped[x.To] {
		return
	}
	switch {
	case letter.Master(x.To):
		w.put(w.masters[x.To-api.Masters-1].Take(x))
	case letter.Node(x.To):
		w.put(w.nodes[x.To-1].Take(x))
	default:
		w.toCaller(w.callers[x.To-api.Clients-1], x)
	}
	w.observe()
}

// toCaller lets a caller take a letter, which must change nothing that was answered.
func (w *cluster) toCaller(c *caller.Caller, x api.Letter) {
	busy, epoch := c.Busy(), c.Atlas().Confs()
	last, before := c.Last()
	w.put(c.Take(x))
	for chain, now := range c.Atlas().Confs() {
		if now.Epoch < epoch[chain].Epoch {
			w.t.Fatal("an epoch decreased:", tell(x))
		}
	}
	if busy && !c.Busy() {
		w.judge(c)
		return
	}
	if now, r := c.Last(); now != last || !sameReply(r, before) || c.Busy() != busy {
		w.t.Fatal("is no answer, but changes one:", tell(x))
	}
	if !busy && x.Kind != api.LConfig {
		w.late++
	}
}

// judge holds an answer that has just arrived to what was done for the request, or to what there was to read.
func (w *cluster) judge(c *caller.Caller) {
	r, _ := c.Reply()
	o := c.Op()
	who := request{c.Address() - api.Clients, c.Num()}
	if last, again := c.Last(); last != c.Num() || !sameReply(r, again) {
		w.t.Fatal(who, "was answered", r, "but the last answer is", last, again)
	}
	if o.Kind == api.Read {
		most := uint64(len(w.values[o.Key]))
		if r.Code != api.OK || r.Ver < w.least[who.client] || r.Ver > most || r.Ver > 0 && !bytes.Equal(r.Data, w.values[o.Key][r.Ver-1]) {
			w.t.Fatal(who, o, "was answered", r, "not from", w.least[who.client], "to", most)
		}
		return
	}
	w.answers++
	if effect, ok := w.effects[who]; !ok || !sameReply(r, effect) {
		w.t.Fatal(who, o, "was answered", r, "its effect is", effect, ok)
	}
}

// begin lets a caller begin an operation, unless one is in progress.
func (w *cluster) begin(who int) {
	c := w.callers[who-1]
	if w.stopped[c.Address()] || c.Busy() {
		return
	}
	o := api.Op{Kind: 1 + w.random.Intn(3), Key: uint32(w.random.Intn(keys))}
	last := uint64(len(w.values[o.Key]))
	switch o.Kind {
	case api.Read:
		o.Pick = w.random.Intn(desired)
		w.least[who] = last
	case api.Compare:
		o.Ver = last - min(last, uint64(w.random.Intn(2)))
	}
	if o.Kind != api.Read {
		o.Data = []byte(fmt.Sprint(who, " ", c.Num()+1))
	}
	sent, e := c.Begin(o)
	if e != api.OK || len(sent) != 1 {
		w.t.Fatal(who, o, int(e), sent)
	}
	w.asked[request{who, c.Num()}] = o
	w.put(sent)
}

// tick lets the participant with that address tick.
func (w *cluster) tick(address int) {
	if w.stopped[address] {
		return
	}
	switch {
	case letter.Master(address):
		w.put(w.masters[address-api.Masters-1].Tick(w.down()))
	case letter.Node(address):
		w.put(w.nodes[address-1].Tick(w.down()))
	default:
		sent := w.callers[address-api.Clients-1].Tick()
		w.repeats += len(sent) / 2
		w.put(sent)
	}
	w.observe()
}

// observe executes what the tails have, and holds it to being what was asked for, once.
func (w *cluster) observe() {
	for _, s := range w.nodes {
		x := s.Replica()
		c := x.Conf()
		if w.stopped[s.Node()] || !x.Role().Tail || x.End() <= w.ends[c.Chain] {
			continue
		}
		for seq := w.ends[c.Chain] + 1; seq <= x.End(); seq++ {
			w.execute(s, seq)
		}
		w.ends[c.Chain] = x.End()
	}
}

// execute executes the update of that number, which must be in the row of a client.
func (w *cluster) execute(s *server.Server, seq uint64) {
	for client := 1; client <= api.MaxClients; client++ {
		r, ok := s.Replica().Store().Row(client)
		if !ok || r.Seq != seq {
			continue
		}
		who := request{client, r.Num}
		o, ok := w.asked[who]
		if effect, again := w.effects[who]; !ok || again || o.Kind == api.Read {
			w.t.Fatal(who, o, ok, "has an effect, and had one before:", effect, again)
		}
		u, _ := update.Request(o, client, r.Num)
		code, ver, created := update.Outcome(u, uint64(len(w.values[o.Key])), true)
		if code != r.Code || ver != r.Ver || atlas.Chain(o.Key, chains) != s.Replica().Conf().Chain {
			w.t.Fatal(who, o, "has the effect", r, "not", int(code), ver)
		}
		if created {
			w.values[o.Key] = append(w.values[o.Key], o.Data)
		}
		w.effects[who] = api.Reply{Code: code, Ver: ver}
		return
	}
	w.t.Fatal("the update", seq, "of", conf.Text(s.Replica().Conf()), "is no client's last one")
}

// stop stops a participant, unless a chain had no settled node left, or too few masters or clients were.
func (w *cluster) stop(address int) {
	if w.stopped[address] {
		return
	}
	others := 0
	for x := range w.stopped {
		if letter.Master(address) && letter.Master(x) || letter.Client(address) && letter.Client(x) {
			others++
		}
	}
	if letter.Master(address) && others >= masters/2 || letter.Client(address) && others > 2 {
		return
	}
	w.stopped[address] = true
	for _, c := range w.confs() {
		if role.Missing(c, w.down()) {
			delete(w.stopped, address)
		}
	}
}

// anyone is the address of a participant.
func (w *cluster) anyone() int {
	switch w.random.Intn(6) {
	case 0:
		return api.Masters + 1 + w.random.Intn(masters)
	case 1, 2:
		return api.Clients + 1 + w.random.Intn(api.MaxClients)
	}
	return 1 + w.random.Intn(nodes)
}

func (w *cluster) step() {
	switch at := w.random.Intn(1000); {
	case at < 200:
		w.tick(w.anyone())
	case at < 300:
		w.begin(1 + w.random.Intn(api.MaxClients))
	case at < 302:
		w.stop(w.anyone())
	case len(w.transit) > 0:
		i := 0 // as a rule the oldest ones come first
		if w.random.Intn(3) == 0 {
			i = w.random.Intn(len(w.transit))
		}
		w.deliver(i)
	}
}

// round delivers what is in transit, and then lets everybody tick.
func (w *cluster) round() {
	for range len(w.transit) {
		w.deliver(0)
	}
	for i := range masters {
		w.tick(api.Masters + 1 + i)
	}
	for i := range nodes {
		w.tick(1 + i)
	}
	for i := range api.MaxClients {
		w.tick(api.Clients + 1 + i)
	}
}

// settle lets nothing more be lost, until everything is answered, and then for some rounds until all nodes have everything.
func (w *cluster) settle() {
	w.lost = 0
	busy := func(c *caller.Caller) bool { return c.Busy() && !w.stopped[c.Address()] }
	for n := 0; slices.ContainsFunc(w.callers, busy); n++ {
		if n == 500 {
			w.t.Fatal("not answered", w.confs(), w.stopped)
		}
		w.round()
	}
	for range 100 {
		w.round()
	}
}

// final holds the nodes to the values that result if each request has its effect once.
func (w *cluster) final() {
	for _, c := range w.confs() {
		for _, node := range conf.Settled(c) {
			if w.stopped[node] {
				continue
			}
			for key, l := range w.values {
				if atlas.Chain(uint32(key), chains) != c.Chain {
					continue
				}
				v := w.nodes[node-1].Replica().Store().Last(uint32(key))
				if v.Ver != uint64(len(l)) || len(l) > 0 && !bytes.Equal(v.Data, l[len(l)-1]) {
					w.t.Fatal("node", node, "of", conf.Text(c), "has", v, "for", key, "after", len(l))
				}
			}
		}
	}
}

// P0.3, P26.4: however often a client sends a request, and whatever is lost, duplicated or delayed, and whoever stops: what is written takes effect at most once, and its answer is its effect; what was answered stays so; and once nothing more is lost, everything is answered.
func TestExactlyOnce(t *testing.T) {
	random := rand.New(rand.NewSource(264))
	requests, effects, answers, repeats, late, stopped, epochs := 0, 0, 0, 0, 0, 0, uint64(0)
	for round := range 60 {
		w := newCluster(t, random, round%4*6)
		for range 5000 {
			w.step()
		}
		w.settle()
		w.final()
		requests += len(w.asked)
		effects += len(w.effects)
		answers += w.answers
		repeats += w.repeats
		late += w.late
		stopped += len(w.stopped)
		for _, c := range w.confs() {
			epochs += c.Epoch
		}
	}
	if requests < 7000 || effects < 5000 || answers < 5000 || repeats < 7000 || late < 1500 || stopped < 300 || epochs < 800 {
		t.Error("hardly anything happened:", requests, effects, answers, repeats, late, stopped, epochs)
	}
}
