package server_test

import (
	"fmt"
	"math"
	"slices"
	"testing"

	"catenary/api"
	"catenary/conf"
	"catenary/craq"
	"catenary/letter"
	"catenary/server"
)

const (
	chain   = 1
	epoch   = 7
	masters = 3
)

// of returns a configuration of the chain in the epoch.
func of(nodes ...int) api.Conf {
	return api.Conf{Chain: chain, Epoch: epoch, Nodes: nodes}
}

func fresh(c api.Conf) api.Conf {
	c.Fresh = true
	return c
}

func joined(c api.Conf, node int) api.Conf {
	c.Join = node
	return c
}

// later returns c as the configuration of the next epoch.
func later(c api.Conf) api.Conf {
	c.Epoch++
	return c
}

// made returns a new server of the node in the configuration c, one of three masters' nodes.
func made(t *testing.T, node int, c api.Conf) *server.Server {
	t.Helper()
	s, e := server.New(node, masters, c)
	if e != api.OK {
		t.Fatal(node, c, int(e))
	}
	return s
}

// drawn returns what was a spare node, and was told of c.
func drawn(t *testing.T, node int, c api.Conf) *server.Server {
	t.Helper()
	s := made(t, node, api.Conf{})
	takes(t, s, config(101, node, c))
	if !conf.Same(s.Replica().Conf(), c) {
		t.Fatal("did not adopt", conf.Text(c))
	}
	return s
}

// same holds letters to these, and to being valid.
func same(t *testing.T, got []api.Letter, want ...api.Letter) {
	t.Helper()
	for i := range max(len(got), len(want)) {
		switch {
		case i >= len(got):
			t.Error("not sent:", tell(want[i]))
		case i >= len(want):
			t.Error("sent, too:", tell(got[i]))
		case !letter.Same(got[i], want[i]):
			t.Error("sent:", tell(got[i]), "not:", tell(want[i]))
		case letter.Check(got[i]) != api.OK:
			t.Error("not valid:", tell(got[i]))
		}
	}
}

// tell returns a letter as text.
func tell(l api.Letter) string {
	return fmt.Sprintf("%s %+v", letter.Name(l.Kind), l)
}

// takes lets s take l, and holds it to sending these.
func takes(t *testing.T, s *server.Server, l api.Letter, want ...api.Letter) {
	t.Helper()
	same(t, s.Take(l), want...)
}

// waits holds a server to the reads that wait there.
func waits(t *testing.T, s *server.Server, want ...craq.Read) {
	t.Helper()
	if l := s.Reads(); !slices.Equal(l, want) {
		t.Error(l, "wait, not", want)
	}
}

// in makes l a letter of the chain and the epoch of c.
func in(c api.Conf, l api.Letter) api.Letter {
	l.Chain, l.Epoch = c.Chain, c.Epoch
	return l
}

// at returns the update of that number; it writes the block 5, for client 1.
func at(seq uint64) api.Update {
	return api.Update{Seq: seq, Client: 1, Num: seq, Kind: api.Write, Key: 5, Data: data(seq)}
}

func data(seq uint64) []byte {
	return []byte{byte(seq), 7}
}

func run(first, last uint64) []api.Update {
	var l []api.Update
	for seq := first; seq <= last; seq++ {
		l = append(l, at(seq))
	}
	return l
}

func config(from, to int, c api.Conf) api.Letter {
	return api.Letter{Kind: api.LConfig, From: from, To: to, Conf: c}
}

func push(c api.Conf, from, to int, end, base uint64, l ...api.Update) api.Letter {
	return in(c, api.Letter{Kind: api.LPush, From: from, To: to, Seq: end, Done: base, Updates: l})
}

func ack(c api.Conf, from, to int, end, done uint64) api.Letter {
	return in(c, api.Letter{Kind: api.LAck, From: from, To: to, Seq: end, Done: done})
}

func read(c api.Conf, client, to int, num uint64, key uint32) api.Letter {
	return in(c, api.Letter{Kind: api.LRead, From: api.Clients + client, To: to, Num: num, Key: key})
}

func query(c api.Conf, from, to int, token uint64, key uint32) api.Letter {
	return in(c, api.Letter{Kind: api.LQuery, From: from, To: to, Num: token, Key: key})
}

func told(c api.Conf, from, to int, token uint64, key uint32, ver uint64) api.Letter {
	return in(c, api.Letter{Kind: api.LTold, From: from, To: to, Num: token, Key: key, Ver: ver})
}

func got(from, client int, num uint64, key uint32, ver uint64, data []byte) api.Letter {
	return api.Letter{Kind: api.LGot, From: from, To: api.Clients + client, Num: num, Key: key, Ver: ver, Data: data}
}

func report(from, to, kind int, c api.Conf, node int) api.Letter {
	return api.Letter{Kind: api.LReport, From: from, To: to, Cmd: api.Cmd{Kind: kind, Chain: c.Chain, Epoch: c.Epoch, Node: node}}
}

// reports are those of a command to all masters.
func reports(from, kind int, c api.Conf, node int) []api.Letter {
	return []api.Letter{report(from, 101, kind, c, node), report(from, 102, kind, c, node), report(from, 103, kind, c, node)}
}

func locate(from, to, chain int) api.Letter {
	return api.Letter{Kind: api.LLocate, From: from, To: to, Chain: chain}
}

// middle returns the node 2 of 1 2 3, which has five updates, the first two of them done.
func middle(t *testing.T) *server.Server {
	t.Helper()
	c := of(1, 2, 3)
	s := made(t, 2, c)
	s.Take(push(c, 1, 2, 5, 0, run(1, 3)...))
	s.Take(push(c, 1, 2, 5, 0, run(4, 5)...))
	s.Take(ack(c, 3, 2, 2, 2))
	if x := s.Replica(); x.End() != 5 || x.Done() != 2 {
		t.Fatal(x.End(), x.Done())
	}
	return s
}

// tail returns the node 3 of 1 2 3, which has as many updates.
func tail(t *testing.T, end uint64) *server.Server {
	t.Helper()
	c := of(1, 2, 3)
	s := made(t, 3, c)
	for seq := range end {
		s.Take(push(c, 2, 3, end, 0, at(seq+1)))
	}
	return s
}

// P24.1: the numbers of masters, and what replica.New takes.
func TestNew(t *testing.T) {
	for _, n := range []int{1, 2, 5} {
		for _, c := range []api.Conf{of(2), of(1, 2, 3), {}} {
			s, e := server.New(2, n, c)
			if e != api.OK || s.Node() != 2 || !conf.Same(s.Replica().Conf(), c) || s.May() != (c.Epoch > 0) || len(s.Reads()) != 0 {
				t.Error(n, c, int(e))
			}
		}
	}
	for _, x := range []struct {
		node, masters int
		c             api.Conf
	}{
		{2, 0, of(2)}, {2, -1, of(2)}, {2, 6, of(2)}, {2, math.MinInt, api.Conf{}}, {2, math.MaxInt, api.Conf{}},
		{0, 3, api.Conf{}}, {25, 3, api.Conf{}}, {-1, 3, of(2)}, {1, 3, of(2)}, {2, 3, fresh(of(1, 2))}, {2, 3, joined(of(1), 2)}, {2, 3, of(2, 2)}, {0, 0, of()},
	} {
		if s, e := server.New(x.node, x.masters, x.c); s != nil || e != api.ErrArg {
			t.Error(x.node, x.masters, x.c, int(e))
		}
	}
}

// P24.1: nil does nothing.
func TestNil(t *testing.T) {
	var s *server.Server
	if len(s.Take(read(of(1), 1, 1, 1, 5))) != 0 || len(s.Take(api.Letter{})) != 0 || len(s.Tick([]int{1})) != 0 {
		t.Error("nil sends")
	}
	if s.Replica() != nil || len(s.Reads()) != 0 || s.May() || s.Node() != 0 {
		t.Error("nil has something")
	}
}

// P24.1: the chapter's example: a node without a configuration asks nobody; it reads nothing, either.
func TestExample(t *testing.T) {
	s := made(t, 2, api.Conf{})
	for range 5 {
		same(t, s.Tick([]int{1, 3}))
	}
	takes(t, s, read(of(2), 1, 2, 1, 5))
	takes(t, s, push(of(1, 2), 1, 2, 0, 0))
	if s.May() {
		t.Error("it may read")
	}
}

// P24.1: letters that are not valid, or not for this node, have no effect, and nor have other kinds.
func TestTakeNothing(t *testing.T) {
	c := of(1, 2)
	s := made(t, 1, c)
	x := made(t, 1, of(1))
	one := read(c, 1, 1, 4, 5)
	for _, change := range []func(*api.Letter){
		func(l *api.Letter) { l.To = 2 },
		func(l *api.Letter) { l.To = 101 },
		func(l *api.Letter) { l.To = 0 },
		func(l *api.Letter) { l.From = 0 },
		func(l *api.Letter) { l.From = 2 },
		func(l *api.Letter) { l.From = 101 },
		func(l *api.Letter) { l.From = api.Clients + 7 },
		func(l *api.Letter) { l.Chain = 0 },
		func(l *api.Letter) { l.Chain = 9 },
		func(l *api.Letter) { l.Epoch-- },
		func(l *api.Letter) { l.Epoch++ },
		func(l *api.Letter) { l.Epoch = 0 },
		func(l *api.Letter) { l.Ver = 1 },
		func(l *api.Letter) { l.Kind = 0 },
		func(l *api.Letter) { l.Kind = 21 },
		func(l *api.Letter) { l.Kind = api.LGot },
		func(l *api.Letter) { l.Data = []byte{1} },
	} {
		l := one
		change(&l)
		takes(t, s, l)
	}
	takes(t, s, one, got(1, 1, 4, 5, 0, nil))
	cmd := api.Cmd{Kind: api.Remove, Chain: chain, Epoch: epoch, Node: 2}
	for _, l := range []api.Letter{
		{Kind: api.LPrepare, Ballot: 9}, {Kind: api.LPromise, Ballot: 9}, {Kind: api.LAccept, Ballot: 9, Cmd: cmd}, {Kind: api.LAccepted, Ballot: 9},
		{Kind: api.LChosen, Cmd: cmd}, {Kind: api.LBeat, Ballot: 9}, {Kind: api.LWant}, {Kind: api.LRefuse, Ballot: 9}, {Kind: api.LReport, Cmd: cmd}, {Kind: api.LLocate, Chain: chain},
		{Kind: api.LWrote, Num: 1}, {Kind: api.LGot, Num: 1},
	} {
		for l.From = range 300 {
			l.To = 1
			if len(s.Take(l)) != 0 || len(x.Take(l)) != 0 {
				t.Error(tell(l))
			}
		}
	}
	same(t, x.Tick(nil), locate(1, 102, chain)) // as ever
	if c := s.Replica().Conf(); conf.Text(c) != "chain 1 epoch 7: 1 2" {
		t.Error(conf.Text(c))
	}
}

// P24.1: the replica adopts what it is told, whoever tells it; what it sends is sent; no read waits any more then.
func TestConfig(t *testing.T) {
	s := middle(t)
	takes(t, s, read(of(1, 2, 3), 4, 2, 9, 5), query(of(1, 2, 3), 2, 3, 1, 5))
	takes(t, s, config(101, 2, of(1, 2))) // not newer
	takes(t, s, config(101, 2, api.Conf{Chain: 2, Epoch: 9, Nodes: []int{2}}))
	takes(t, s, config(101, 1, later(of(1, 2)))) // not for it
	takes(t, s, config(101, 2, later(of(2, 2)))) // not valid
	takes(t, s, config(0, 2, later(of(1, 2))))
	wrong := config(101, 2, later(of(1, 2)))
	wrong.Epoch = 8
	takes(t, s, wrong)
	waits(t, s, craq.Read{Token: 1, Client: 4, Num: 9, Key: 5})
	c := later(of(1, 2, 4))
	takes(t, s, config(205, 2, c))
	waits(t, s)
	takes(t, s, told(c, 4, 2, 1, 5, 5))                    // it waits no more
	takes(t, s, read(c, 4, 2, 9, 5), query(c, 2, 4, 2, 5)) // the tokens continue
	takes(t, s, told(of(1, 2, 3), 3, 2, 2, 5, 5))          // of another epoch
	takes(t, s, told(c, 4, 2, 2, 5, 5), got(2, 4, 9, 5, 5, data(5)))
	c = later(c)
	c.Nodes = []int{1, 2}
	takes(t, s, config(3, 2, c), ack(c, 2, 1, 5, 5))
	if x := s.Replica(); x.Done() != 5 || !conf.Same(x.Conf(), c) {
		t.Error(x.Done(), conf.Text(x.Conf()))
	}
}

// P24.1: what the replica sends for its letters is sent.
func TestReplicaLetters(t *testing.T) {
	c := of(1, 2)
	s := made(t, 1, c)
	u := at(1)
	u.Seq = 0
	takes(t, s, in(c, api.Letter{Kind: api.LWrite, From: 201, To: 1, Updates: []api.Update{u}}), push(c, 1, 2, 1, 0))
	takes(t, s, ack(c, 2, 1, 1, 1), api.Letter{Kind: api.LWrote, From: 1, To: 201, Num: 1, Ver: 1}, push(c, 1, 2, 1, 0))
	s = made(t, 2, c)
	takes(t, s, push(c, 1, 2, 1, 0, at(1)), ack(c, 2, 1, 1, 1), ack(c, 2, 1, 1, 1))
	takes(t, s, in(c, api.Letter{Kind: api.LPart, From: 1, To: 2, Seq: 1, Num: 1}), ack(c, 2, 1, 1, 1))
	takes(t, s, push(later(c), 1, 2, 2, 0, at(2)))
	if s.Replica().End() != 1 {
		t.Error(s.Replica().End())
	}
}

// P24.1: a clean block is answered at once, with what the node has, by any node of the chain.
func TestRead(t *testing.T) {
	c := of(1, 2, 3)
	s := middle(t)
	takes(t, s, read(c, 6, 2, 9, 8), got(2, 6, 9, 8, 0, nil)) // never written
	takes(t, s, read(c, 6, 2, 0, math.MaxUint32), got(2, 6, 0, math.MaxUint32, 0, nil))
	takes(t, s, ack(c, 3, 2, 5, 5), ack(c, 2, 1, 5, 5))
	takes(t, s, read(c, 6, 2, 10, 5), got(2, 6, 10, 5, 5, data(5)))
	takes(t, s, read(c, 1, 2, math.MaxUint64, 5), got(2, 1, math.MaxUint64, 5, 5, data(5)))
	waits(t, s)
	takes(t, tail(t, 4), read(c, 2, 3, 1, 5), got(3, 2, 1, 5, 4, data(4)))
	s = made(t, 1, c)
	takes(t, s, read(c, 2, 1, 1, 5), got(1, 2, 1, 5, 0, nil))
}

// P24.1: for a dirty block the tail is asked, with a token; a read that comes again has the same one.
func TestReadDirty(t *testing.T) {
	c := of(1, 2, 3)
	s := middle(t)
	takes(t, s, read(c, 6, 2, 9, 5), query(c, 2, 3, 1, 5))
	takes(t, s, read(c, 2, 2, 9, 5), query(c, 2, 3, 2, 5))
	takes(t, s, read(c, 6, 2, 9, 5), query(c, 2, 3, 1, 5))
	waits(t, s, craq.Read{Token: 1, Client: 6, Num: 9, Key: 5}, craq.Read{Token: 2, Client: 2, Num: 9, Key: 5})
	takes(t, s, read(c, 6, 2, 10, 5), query(c, 2, 3, 3, 5)) // instead of the first one
	takes(t, s, read(c, 3, 2, 0, 5))                        // no read has the number 0
	waits(t, s, craq.Read{Token: 2, Client: 2, Num: 9, Key: 5}, craq.Read{Token: 3, Client: 6, Num: 10, Key: 5})
	takes(t, s, read(c, 2, 2, 11, 8), got(2, 2, 11, 8, 0, nil)) // what is answered at once leaves those that wait
	waits(t, s, craq.Read{Token: 2, Client: 2, Num: 9, Key: 5}, craq.Read{Token: 3, Client: 6, Num: 10, Key: 5})
}

// P24.1: a node that does not have everything yet, or is not one of the Nodes, does not read.
func TestMay(t *testing.T) {
	c := fresh(of(1, 2))
	s := drawn(t, 2, c)
	takes(t, s, read(c, 6, 2, 9, 8))
	takes(t, s, query(c, 1, 2, 9, 8))
	takes(t, s, push(c, 1, 2, 3, 2, at(1)), ack(c, 2, 1, 1, 1), ack(c, 2, 1, 1, 1))
	takes(t, s, read(c, 6, 2, 9, 5))
	takes(t, s, query(c, 1, 2, 9, 5))
	if s.May() {
		t.Error("it lacks 2")
	}
	takes(t, s, push(c, 1, 2, 3, 2, at(2)), ack(c, 2, 1, 2, 2), ack(c, 2, 1, 2, 2))
	takes(t, s, read(c, 6, 2, 9, 5), got(2, 6, 9, 5, 2, data(2)))
	takes(t, s, query(c, 1, 2, 9, 5), told(c, 2, 1, 9, 5, 2))
	if !s.May() {
		t.Error("it has everything")
	}
	c = joined(of(1), 2)
	s = drawn(t, 2, c)
	takes(t, s, push(c, 1, 2, 1, 0, at(1)), ack(c, 2, 1, 1, 1))
	takes(t, s, read(c, 6, 2, 9, 5))
	if s.May() {
		t.Error("it joins")
	}
	s = drawn(t, 2, of(1, 2, 3)) // a node that never became open
	takes(t, s, read(of(1, 2, 3), 6, 2, 9, 8))
	if s.May() {
		t.Error("it is not open")
	}
	s = made(t, 2, of(1, 2))
	takes(t, s, config(101, 2, later(of(1))))
	takes(t, s, read(later(of(1)), 6, 2, 9, 8))
	if s.May() || !s.Replica().Open() {
		t.Error("it was removed")
	}
}

// P24.1: the tail tells the number of its last version to the other Nodes.
func TestQuery(t *testing.T) {
	c := of(1, 2, 3)
	s := tail(t, 4)
	for _, from := range []int{1, 2} {
		takes(t, s, query(c, from, 3, 77, 5), told(c, 3, from, 77, 5, 4))
		takes(t, s, query(c, from, 3, math.MaxUint64, 6), told(c, 3, from, math.MaxUint64, 6, 0))
	}
	for _, from := range []int{3, 4, 101, 201} {
		takes(t, s, query(c, from, 3, 77, 5))
	}
	takes(t, s, query(later(c), 2, 3, 77, 5))
	takes(t, middle(t), query(c, 1, 2, 77, 5)) // not the tail
	takes(t, middle(t), query(c, 3, 2, 77, 5))
	c = later(joined(of(1, 2, 3), 4))
	takes(t, s, config(101, 3, c))
	takes(t, s, query(c, 4, 3, 77, 5)) // the Join is none of the Nodes
	takes(t, s, query(c, 2, 3, 77, 5), told(c, 3, 2, 77, 5, 4))
}

// P24.1: what the tail tells is answered to the client whose read waits, once.
func TestTold(t *testing.T) {
	c := of(1, 2, 3)
	s := middle(t)
	s.Take(read(c, 6, 2, 9, 5))
	s.Take(read(c, 2, 2, 33, 5))
	for _, from := range []int{1, 2, 4, 101, 206} {
		takes(t, s, told(c, from, 2, 1, 5, 3))
	}
	takes(t, s, told(later(c), 3, 2, 1, 5, 3))
	takes(t, s, told(c, 3, 2, 0, 5, 3))
	takes(t, s, told(c, 3, 2, 3, 5, 3))
	takes(t, s, told(c, 3, 2, 9, 5, 3)) // the number of the read is no token
	waits(t, s, craq.Read{Token: 1, Client: 6, Num: 9, Key: 5}, craq.Read{Token: 2, Client: 2, Num: 33, Key: 5})
	takes(t, s, told(c, 3, 2, 2, 5, 3), got(2, 2, 33, 5, 3, data(3)))
	takes(t, s, told(c, 3, 2, 2, 5, 3))
	takes(t, s, told(c, 3, 2, 1, 5, 2), got(2, 6, 9, 5, 2, data(2)))
	waits(t, s)
}

// P24.1: what the tail told, or something newer that is done; with the number of another block, or a version that the node lacks, nothing is answered, and the read no longer waits.
func TestToldVersions(t *testing.T) {
	c := of(1, 2, 3)
	for _, x := range []struct {
		key  uint32
		ver  uint64
		done uint64
		want uint64 // 0: nothing
	}{
		{5, 2, 2, 2}, {5, 3, 2, 3}, {5, 5, 2, 5}, {5, 1, 2, 2}, {5, 0, 2, 2}, {5, 6, 2, 0}, {5, math.MaxUint64, 2, 0}, {8, 3, 2, 0},
		{5, 2, 4, 4}, {5, 4, 4, 4}, {5, 5, 4, 5}, {5, 3, 5, 5}, {5, 6, 5, 0},
	} {
		s := middle(t)
		takes(t, s, read(c, 6, 2, 9, 5), query(c, 2, 3, 1, 5))
		s.Take(ack(c, 3, 2, x.done, x.done))
		if l := told(c, 3, 2, 1, x.key, x.ver); x.want == 0 {
			takes(t, s, l)
		} else {
			takes(t, s, l, got(2, 6, 9, 5, x.want, data(x.want)))
		}
		waits(t, s)
	}
	s := made(t, 1, c) // nothing is done yet: the tail has no version, and none is answered
	s.Take(in(c, api.Letter{Kind: api.LWrite, From: 201, To: 1, Updates: []api.Update{{Client: 1, Num: 1, Kind: api.Write, Key: 5, Data: data(1)}}}))
	takes(t, s, read(c, 6, 1, 9, 5), query(c, 1, 3, 1, 5))
	takes(t, s, told(c, 3, 1, 1, 5, 0), got(1, 6, 9, 5, 0, nil))
}

// P24.1: the masters are asked for the node's chain, one after the other; ticks count from the first one, with a configuration or without.
func TestTickLocate(t *testing.T) {
	s := made(t, 1, of(1))
	for _, to := range []int{102, 103, 101, 102, 103, 101} {
		same(t, s.Tick(nil), locate(1, to, chain))
	}
	s, _ = server.New(1, 1, api.Conf{Chain: 3, Epoch: 1, Nodes: []int{1}})
	for range 3 {
		same(t, s.Tick(nil), locate(1, 101, 3))
	}
	s = made(t, 4, api.Conf{})
	same(t, s.Tick(nil))
	takes(t, s, config(101, 4, joined(of(1), 4)))
	same(t, s.Tick(nil), locate(4, 103, chain))
	takes(t, s, config(101, 4, later(of(1)))) // it has no role any more, and may get one again
	same(t, s.Tick([]int{1}), locate(4, 101, chain))
}

// P24.1: neighbours that are down are reported to all masters, in increasing order.
func TestTickReports(t *testing.T) {
	c := of(1, 2, 3)
	s := made(t, 2, c)
	s.Take(ack(c, 3, 2, 0, 0))
	same(t, s.Tick([]int{3, 1, 5}), slices.Concat(reports(2, api.Remove, c, 1), reports(2, api.Remove, c, 3), []api.Letter{locate(2, 102, chain)})...)
	same(t, s.Tick([]int{3}), append(reports(2, api.Remove, c, 3), locate(2, 103, chain))...)
	same(t, s.Tick([]int{5, 2, 0, -1}), locate(2, 101, chain))
	s = made(t, 1, c)
	s.Take(ack(c, 2, 1, 0, 0))
	same(t, s.Tick([]int{3}), locate(1, 102, chain)) // no neighbour of 1
	c = joined(of(1, 2), 4)
	s = drawn(t, 4, c)
	same(t, s.Tick([]int{1, 2}), append(reports(4, api.Remove, c, 2), locate(4, 102, chain))...)
	s, _ = server.New(1, 5, of(1, 2))
	s.Take(ack(of(1, 2), 2, 1, 0, 0))
	l := s.Tick([]int{2})
	for i, to := range []int{101, 102, 103, 104, 105} {
		if len(l) != 6 || !letter.Same(l[i], report(1, to, api.Remove, of(1, 2), 2)) {
			t.Error(l)
		}
	}
}

// P24.1: the tail asks to promote the Join when that has everything, behind the nodes that it reports.
func TestTickPromote(t *testing.T) {
	c := joined(of(1, 2), 4)
	s := made(t, 2, c)
	same(t, s.Tick(nil), push(c, 2, 4, 0, 0), locate(2, 102, chain))
	s.Take(ack(c, 4, 2, 0, 0))
	same(t, s.Tick(nil), append(reports(2, api.Promote, c, 4), locate(2, 103, chain))...)
	same(t, s.Tick([]int{1, 4}), slices.Concat(reports(2, api.Remove, c, 1), reports(2, api.Remove, c, 4), reports(2, api.Promote, c, 4), []api.Letter{locate(2, 101, chain)})...)
	s.Take(push(c, 1, 2, 1, 0, at(1)))
	same(t, s.Tick(nil), push(c, 2, 4, 1, 0, at(1)), locate(2, 102, chain))
}

// P24.1: a Fresh tail that is open asks to be settled.
func TestTickSettle(t *testing.T) {
	c := fresh(of(1, 2))
	s := drawn(t, 2, c)
	same(t, s.Tick(nil), locate(2, 102, chain))
	s.Take(push(c, 1, 2, 0, 0))
	same(t, s.Tick(nil), append(reports(2, api.Settle, c, 2), locate(2, 103, chain))...)
	same(t, s.Tick([]int{1}), slices.Concat(reports(2, api.Remove, c, 1), reports(2, api.Settle, c, 2), []api.Letter{locate(2, 101, chain)})...)
	takes(t, s, config(101, 2, later(of(1, 2))))
	same(t, s.Tick(nil), locate(2, 102, chain))
	s = made(t, 1, of(1)) // open, but not the tail
	c = later(fresh(of(1, 3)))
	takes(t, s, config(101, 1, c))
	same(t, s.Tick(nil), push(c, 1, 3, 0, 0), locate(1, 102, chain))
}

// P24.1: for reads that wait the tail is asked again, in the order of their tokens, behind everything else.
func TestTickReads(t *testing.T) {
	c := of(1, 2, 3)
	s := middle(t)
	for client := 6; client >= 4; client-- {
		s.Take(read(c, client, 2, 9, 5))
	}
	s.Take(read(c, 6, 2, 10, 5))
	want := []api.Letter{push(c, 2, 3, 5, 0, run(3, 5)...)}
	want = append(want, reports(2, api.Remove, c, 1)...)
	want = append(want, locate(2, 102, chain), query(c, 2, 3, 2, 5), query(c, 2, 3, 3, 5), query(c, 2, 3, 4, 5))
	same(t, s.Tick([]int{1}), want...)
	takes(t, s, told(c, 3, 2, 3, 5, 2), got(2, 4, 9, 5, 2, data(2)))
	same(t, s.Tick(nil), push(c, 2, 3, 5, 0, run(3, 5)...), locate(2, 103, chain), query(c, 2, 3, 2, 5), query(c, 2, 3, 4, 5))
}

// P24.1: what is returned shares no memory with the server, except for the replica, which is its own.
func TestMemory(t *testing.T) {
	c := of(1, 2, 3)
	s := middle(t)
	s.Take(read(c, 6, 2, 9, 5))
	s.Reads()[0].Key = 99
	waits(t, s, craq.Read{Token: 1, Client: 6, Num: 9, Key: 5})
	s.Take(told(c, 3, 2, 1, 5, 3))[0].Data[0] = 99
	s.Take(read(c, 6, 2, 10, 5))
	takes(t, s, told(c, 3, 2, 2, 5, 3), got(2, 6, 10, 5, 3, data(3)))
	s.Take(ack(c, 3, 2, 5, 5))
	s.Take(read(c, 6, 2, 11, 5))[0].Data[0] = 99
	takes(t, s, read(c, 6, 2, 12, 5), got(2, 6, 12, 5, 5, data(5)))
	next := later(of(1, 2))
	takes(t, s, config(101, 2, next))
	next.Nodes[0] = 9
	if conf.Text(s.Replica().Conf()) != "chain 1 epoch 8: 1 2" {
		t.Error(conf.Text(s.Replica().Conf()))
	}
	x := s.Replica()
	s.Take(push(later(of(1, 2)), 1, 2, 6, 0, at(6)))
	if x != s.Replica() || x.End() != 6 {
		t.Error("not the replica itself")
	}
}
