package server_test

import (
	"fmt"
	"math/rand"
	"slices"
	"testing"

	"catenary/api"
	"catenary/conf"
	"catenary/letter"
	"catenary/master"
	"catenary/role"
	"catenary/server"
)

const (
	chains  = 2
	nodes   = 9
	desired = 3 // nodes of a chain
	blocks  = 6 // the keys from 0 on; those of the chain i are i modulo the number of chains
)

// asker is a client: it has one operation in progress, and repeats it until it is answered.
type asker struct {
	confs []api.Conf
	num   uint64
	at    int // the index of its operation among all; -1: none is in progress
	ticks int
}

// act is an operation, with the numbers of commits when it began and when it was answered.
type act struct {
	client   int
	num      uint64
	op       api.Op
	from, to int
	done     bool
	reply    api.Reply
}

// commit is an update that the tail of a chain has.
type commit struct {
	chain  int
	seq    uint64
	client int
	num    uint64
	code   api.Errno
	ver    uint64
}

// arrival is a read that has come to a node.
type arrival struct {
	node, client int
	num          uint64
}

// cluster is masters, nodes and clients, the letters in transit, and what was observed.
type cluster struct {
	t       *testing.T
	random  *rand.Rand
	lost    int // of a hundred letters
	masters []*master.Master
	nodes   []*server.Server
	clients []*asker
	stopped map[int]bool // by addresses
	transit []api.Letter
	ends    [chains]uint64
	commits []commit
	acts    []act
	arrived map[arrival]int // the number of commits then
	fenced  int             // letters of another epoch that came to a node
}

func newCluster(t *testing.T, random *rand.Rand, lost int) *cluster {
	t.Helper()
	l, _ := conf.Begin(chains, 2)
	w := &cluster{t: t, random: random, lost: lost, stopped: map[int]bool{}, arrived: map[arrival]int{}}
	for i := range masters {
		m, e := master.New(i+1, masters, nodes, desired, l)
		if e != api.OK {
			t.Fatal(int(e))
		}
		w.masters = append(w.masters, m)
	}
	for i := range nodes {
		c := api.Conf{}
		for _, x := range l {
			if slices.Contains(x.Nodes, i+1) {
				c = x
			}
		}
		w.nodes = append(w.nodes, made(t, i+1, c))
	}
	for range api.MaxClients {
		w.clients = append(w.clients, &asker{confs: conf.Copy(l), at: -1})
	}
	return w
}

// put puts letters into transit, some of them never and some twice.
func (w *cluster) put(l []api.Letter) {
	for _, x := range l {
		if e := letter.Check(x); e != api.OK {
			w.t.Fatal("not valid:", tell(x))
		}
		switch at := w.random.Intn(100); {
		case at < w.lost:
		case at < 2*w.lost:
			w.transit = append(w.transit, x, x)
		default:
			w.transit = append(w.transit, x)
		}
	}
}

// down are the nodes that have stopped.
func (w *cluster) down() []int {
	var l []int
	for i := range w.nodes {
		if w.stopped[i+1] {
			l = append(l, i+1)
		}
	}
	return l
}

// confs are the configurations with the greatest epoch that any master knows.
func (w *cluster) confs() []api.Conf {
	var l []api.Conf
	for chain := range chains {
		var last api.Conf
		for _, m := range w.masters {
			if c, _ := m.Log().Conf(chain); c.Epoch > last.Epoch {
				last = c
			}
		}
		l = append(l, last)
	}
	return l
}

// deliver delivers the letter at i.
func (w *cluster) deliver(i int) {
	x := w.transit[i]
	w.transit = slices.Delete(w.transit, i, i+1)
	if w.stopped[x.To] {
		return
	}
	switch {
	case letter.Master(x.To) && x.To-api.Masters <= masters:
		w.put(w.masters[x.To-api.Masters-1].Take(x))
	case letter.Node(x.To) && x.To <= nodes:
		w.toNode(x)
	case letter.Client(x.To):
		w.put(w.toClient(x.To-api.Clients, x))
	}
	w.observe()
}

// toNode lets a node take a letter, which must have no effect if it is of another epoch than the node's.
func (w *cluster) toNode(x api.Letter) {
	s := w.nodes[x.To-1]
	c, end, done, open, waiting := s.Replica().Conf(), s.Replica().End(), s.Replica().Done(), s.Replica().Open(), s.Reads()
	if x.Kind == api.LRead {
		a := arrival{x.To, x.From - api.Clients, x.Num}
		if _, ok := w.arrived[a]; !ok {
			w.arrived[a] = len(w.commits)
		}
	}
	sent := s.Take(x)
	w.put(sent)
	w.observe()
	w.answers(sent)
	if x.Epoch == 0 || x.Epoch == c.Epoch && x.Chain == c.Chain {
		return
	}
	w.fenced++
	r := s.Replica()
	if len(sent) != 0 || r.End() != end || r.Done() != done || r.Open() != open || !slices.Equal(s.Reads(), waiting) || !conf.Same(r.Conf(), c) {
		w.t.Fatal("in", conf.Text(c), "has an effect:", tell(x))
	}
}

// answers holds what a node answers to versions that were the last ones at some time since the read arrived.
func (w *cluster) answers(sent []api.Letter) {
	for _, x := range sent {
		if x.Kind != api.LGot {
			continue
		}
		from, ok := w.arrived[arrival{x.From, x.To - api.Clients, x.Num}]
		if !ok || !w.was(x.Key, x.Ver, x.Data, from, len(w.commits)) {
			w.t.Fatal("since", from, "until", len(w.commits), "is not the last version:", tell(x))
		}
	}
}

// toClient lets a client take a letter, and returns what it sends.
func (w *cluster) toClient(who int, x api.Letter) []api.Letter {
	c := w.clients[who-1]
	if x.Kind == api.LConfig {
		if known := &c.confs[x.Conf.Chain]; role.Newer(*known, x.Conf) {
			*known = x.Conf
			return w.ask(who)
		}
		return nil
	}
	if c.at < 0 || x.Num != c.num {
		return nil
	}
	a := &w.acts[c.at]
	if reads := a.op.Kind == api.Read; reads != (x.Kind == api.LGot) || reads && x.Key != a.op.Key {
		return nil
	}
	a.to, a.done, a.reply = len(w.commits), true, api.Reply{Code: x.Code, Ver: x.Ver, Data: x.Data}
	c.at = -1
	return nil
}

// ask returns what a client sends for its operation.
func (w *cluster) ask(who int) []api.Letter {
	c := w.clients[who-1]
	if c.at < 0 {
		return nil
	}
	o := w.acts[c.at].op
	known := c.confs[o.Key%chains]
	if o.Kind == api.Read {
		return []api.Letter{read(known, who, role.Reader(known, o.Pick), c.num, o.Key)}
	}
	u := api.Update{Client: who, Num: c.num, Kind: o.Kind, Key: o.Key, Ver: o.Ver, Data: o.Data}
	return []api.Letter{in(known, api.Letter{Kind: api.LWrite, From: api.Clients + who, To: role.Head(known), Updates: []api.Update{u}})}
}

// begin lets a client begin an operation, unless one is in progress.
func (w *cluster) begin(who int) {
	c := w.clients[who-1]
	if w.stopped[api.Clients+who] || c.at >= 0 {
		return
	}
	o := api.Op{Kind: 1 + w.random.Intn(3), Key: uint32(w.random.Intn(blocks))}
	switch o.Kind {
	case api.Read:
		o.Pick = w.random.Intn(desired)
	case api.Compare:
		_, last := w.last(o.Key)
		o.Ver = last.ver - min(last.ver, uint64(w.random.Intn(2)))
	}
	if o.Kind != api.Read {
		o.Data = []byte(fmt.Sprint(len(w.acts)))
	}
	c.num++
	c.at = len(w.acts)
	w.acts = append(w.acts, act{client: who, num: c.num, op: o, from: len(w.commits)})
	w.put(w.ask(who))
}

// tick lets the participant with that address tick.
func (w *cluster) tick(address int) {
	if w.stopped[address] {
		return
	}
	switch {
	case letter.Master(address):
		w.put(w.masters[address-api.Masters-1].Tick(w.down()))
	case letter.Node(address):
		w.put(w.nodes[address-1].Tick(w.down()))
	default:
		who := address - api.Clients
		c := w.clients[who-1]
		c.ticks++
		w.put(w.ask(who))
		if c.at >= 0 {
			to := api.Masters + 1 + c.ticks%masters
			w.put([]api.Letter{{Kind: api.LLocate, From: address, To: to, Chain: int(w.acts[c.at].op.Key % chains)}})
		}
	}
	w.observe()
}

// observe notes what the tails have.
func (w *cluster) observe() {
	for _, s := range w.nodes {
		x := s.Replica()
		c := x.Conf()
		if w.stopped[s.Node()] || !x.Role().Tail || x.End() <= w.ends[c.Chain] {
			continue
		}
		var more []commit
		for client := 1; client <= api.MaxClients; client++ {
			if r, ok := x.Store().Row(client); ok && r.Seq > w.ends[c.Chain] {
				more = append(more, commit{c.Chain, r.Seq, client, r.Num, r.Code, r.Ver})
			}
		}
		slices.SortFunc(more, func(a, b commit) int { return int(a.seq) - int(b.seq) })
		if uint64(len(more)) != x.End()-w.ends[c.Chain] {
			w.t.Fatal(conf.Text(c), "has", more, "from", w.ends[c.Chain], "to", x.End())
		}
		w.commits = append(w.commits, more...)
		w.ends[c.Chain] = x.End()
	}
}

// stop stops a participant, unless a chain had no settled node left, or too few masters or clients were.
func (w *cluster) stop(address int) {
	if w.stopped[address] {
		return
	}
	gone := func(first, last int) int {
		n := 0
		for a := first; a <= last; a++ {
			if w.stopped[a] {
				n++
			}
		}
		return n
	}
	if letter.Master(address) && gone(api.Masters+1, api.Masters+masters) >= masters/2 || letter.Client(address) && gone(api.Clients+1, api.Clients+api.MaxClients) > 2 {
		return
	}
	w.stopped[address] = true
	for _, c := range w.confs() {
		if role.Missing(c, w.down()) {
			w.stopped[address] = false
		}
	}
}

// anyone is the address of a participant, a node as a rule.
func (w *cluster) anyone() int {
	switch w.random.Intn(6) {
	case 0:
		return api.Masters + 1 + w.random.Intn(masters)
	case 1:
		return api.Clients + 1 + w.random.Intn(api.MaxClients)
	}
	return 1 + w.random.Intn(nodes)
}

func (w *cluster) step() {
	switch at := w.random.Intn(1000); {
	case at < 200:
		w.tick(w.anyone())
	case at < 300:
		w.begin(1 + w.random.Intn(api.MaxClients))
	case at < 302:
		w.stop(w.anyone())
	case len(w.transit) > 0:
		i := 0 // as a rule the oldest ones come first
		if w.random.Intn(3) == 0 {
			i = w.random.Intn(len(w.transit))
		}
		w.deliver(i)
	}
}

// round delivers what is in transit, and then lets everybody tick.
func (w *cluster) round() {
	for range len(w.transit) {
		w.deliver(0)
	}
	for i := range masters {
		w.tick(api.Masters + 1 + i)
	}
	for i := range nodes {
		w.tick(1 + i)
	}
	for i := range api.MaxClients {
		w.tick(api.Clients + 1 + i)
	}
}

// busy reports whether a client that runs has an operation in progress.
func (w *cluster) busy() bool {
	for i, c := range w.clients {
		if c.at >= 0 && !w.stopped[api.Clients+1+i] {
			return true
		}
	}
	return false
}

// P0.2, P0.3, P24.2: whatever is lost, duplicated or delayed, whichever participants stop, as long as each chain keeps a settled node, and whichever configurations nodes know: reads, writes and compares are as if each happened at one moment, writes at most once; what nodes answer was the last version since they were asked; and once nothing more is lost, everything is answered.
func TestClusterTheorem(t *testing.T) {
	random := rand.New(rand.NewSource(242))
	commits, acts, stopped, fenced, epochs := 0, 0, 0, 0, uint64(0)
	for round := range 60 {
		w := newCluster(t, random, round%4*6)
		for range 5000 {
			w.step()
		}
		w.lost = 0
		for n := 0; w.busy(); n++ {
			if n == 500 {
				t.Fatal(round, "not answered", w.confs(), w.stopped)
			}
			w.round()
		}
		w.judge()
		commits += len(w.commits)
		acts += len(w.acts)
		stopped += len(w.stopped)
		fenced += w.fenced
		for _, c := range w.confs() {
			epochs += c.Epoch
		}
	}
	if commits < 4000 || acts < 7000 || stopped < 300 || fenced < 3000 || epochs < 800 {
		t.Error("hardly anything happened:", commits, acts, stopped, fenced, epochs)
	}
}
