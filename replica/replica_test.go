package replica_test

import (
	"bytes"
	"fmt"
	"math"
	"testing"

	"catenary/api"
	"catenary/conf"
	"catenary/letter"
	"catenary/replica"
	"catenary/role"
)

const (
	chain = 1
	epoch = 7
)

// of returns a configuration of the chain in the epoch.
func of(nodes ...int) api.Conf {
	return api.Conf{Chain: chain, Epoch: epoch, Nodes: nodes}
}

func fresh(c api.Conf) api.Conf {
	c.Fresh = true
	return c
}

func joined(c api.Conf, node int) api.Conf {
	c.Join = node
	return c
}

// later returns c as the configuration of an epoch that is n greater.
func later(c api.Conf, n uint64) api.Conf {
	c.Epoch += n
	return c
}

// made returns a new replica of the node in the configuration c.
func made(t *testing.T, node int, c api.Conf) *replica.Replica {
	t.Helper()
	x, e := replica.New(node, c)
	if e != api.OK {
		t.Fatal(node, c, int(e))
	}
	return x
}

// drawn returns what was a spare node, and adopted c.
func drawn(t *testing.T, node int, c api.Conf) *replica.Replica {
	t.Helper()
	x := made(t, node, api.Conf{})
	adopt(t, x, c)
	return x
}

// adopt lets x adopt c, and holds it to sending these.
func adopt(t *testing.T, x *replica.Replica, c api.Conf, want ...api.Letter) {
	t.Helper()
	got, ok := x.Adopt(c)
	if !ok || !conf.Same(x.Conf(), c) {
		t.Error("did not adopt", conf.Text(c))
	}
	same(t, got, want...)
}

// same holds letters to these, and to being valid.
func same(t *testing.T, got []api.Letter, want ...api.Letter) {
	t.Helper()
	for i := range max(len(got), len(want)) {
		switch {
		case i >= len(got):
			t.Error("not sent:", tell(want[i]))
		case i >= len(want):
			t.Error("sent, too:", tell(got[i]))
		case !letter.Same(got[i], want[i]):
			t.Error("sent:", tell(got[i]), "not:", tell(want[i]))
		case letter.Check(got[i]) != api.OK:
			t.Error("not valid:", tell(got[i]))
		}
	}
}

// tell returns what a replica may say in a letter as text.
func tell(l api.Letter) string {
	var seqs []uint64
	for _, u := range l.Updates {
		seqs = append(seqs, u.Seq)
	}
	return fmt.Sprintln(letter.Name(l.Kind), "from", l.From, "to", l.To, "chain", l.Chain, "epoch", l.Epoch, "seq", l.Seq, "done", l.Done, "num", l.Num, "slot", l.Slot, "code", int(l.Code), "ver", l.Ver, "updates", seqs, "bytes", len(l.Data))
}

// takes lets x take l, and holds it to sending these.
func takes(t *testing.T, x *replica.Replica, l api.Letter, want ...api.Letter) {
	t.Helper()
	same(t, x.Take(l), want...)
}

// is holds a replica to its end, to what is done, and to being open.
func is(t *testing.T, x *replica.Replica, end, done uint64, open bool) {
	t.Helper()
	if x.End() != end || x.Done() != done || x.Open() != open || x.Store().End() != end {
		t.Errorf("end %d, done %d, open %v, store %d; not %d %d %v", x.End(), x.Done(), x.Open(), x.Store().End(), end, done, open)
	}
}

// got holds a replica to what Succ has received.
func got(t *testing.T, x *replica.Replica, want uint64, known bool) {
	t.Helper()
	if n, ok := x.Got(); n != want || ok != known {
		t.Error("received is", n, ok, "not", want, known)
	}
}

// at returns the update of that number; it writes some block for some client.
func at(seq uint64) api.Update {
	return api.Update{Seq: seq, Client: client(seq), Num: seq, Kind: api.Write, Key: uint32(seq % 3), Data: []byte{byte(seq), byte(seq >> 8)}}
}

func client(seq uint64) int {
	return 1 + int(seq%api.MaxClients)
}

// run returns the updates from the number first on, up to last.
func run(first, last uint64) []api.Update {
	var l []api.Update
	for seq := first; seq <= last; seq++ {
		l = append(l, at(seq))
	}
	return l
}

// in makes l a letter of the chain and the epoch of c.
func in(c api.Conf, l api.Letter) api.Letter {
	l.Chain, l.Epoch = c.Chain, c.Epoch
	return l
}

func push(c api.Conf, from, to int, end, base uint64, l ...api.Update) api.Letter {
	return in(c, api.Letter{Kind: api.LPush, From: from, To: to, Seq: end, Done: base, Updates: l})
}

func ack(c api.Conf, from, to int, end, done uint64) api.Letter {
	return in(c, api.Letter{Kind: api.LAck, From: from, To: to, Seq: end, Done: done})
}

// wants is an acknowledgement that wants a part of a picture.
func wants(c api.Conf, from, to int, end, done, at uint64, part int) api.Letter {
	l := ack(c, from, to, end, done)
	l.Num, l.Slot = at, part
	return l
}

func part(c api.Conf, from, to int, at uint64, i int, parts uint64, b []byte) api.Letter {
	return in(c, api.Letter{Kind: api.LPart, From: from, To: to, Seq: at, Slot: i, Num: parts, Data: b})
}

// ask is the request that becomes the update u when a head executes it.
func ask(c api.Conf, to int, u api.Update) api.Letter {
	u.Seq = 0
	return in(c, api.Letter{Kind: api.LWrite, From: api.Clients + u.Client, To: to, Updates: []api.Update{u}})
}

func wrote(from, client int, num uint64, code api.Errno, ver uint64) api.Letter {
	return api.Letter{Kind: api.LWrote, From: from, To: api.Clients + client, Num: num, Code: code, Ver: ver}
}

// fill lets the node, which is not the head, take the updates up to end from its Pred, one by one.
func fill(t *testing.T, x *replica.Replica, node int, end uint64) {
	t.Helper()
	c := x.Conf()
	for seq := x.End() + 1; seq <= end; seq++ {
		x.Take(push(c, x.Role().Pred, node, seq, 0, at(seq)))
	}
	if x.End() != end {
		t.Fatal("the end is", x.End(), "not", end)
	}
}

// serve lets the head take the requests up to end.
func serve(t *testing.T, x *replica.Replica, node int, end uint64) {
	t.Helper()
	for seq := x.End() + 1; seq <= end; seq++ {
		x.Take(ask(x.Conf(), node, at(seq)))
	}
	if x.End() != end {
		t.Fatal("the end is", x.End(), "not", end)
	}
}

// P23.1: a replica of a configuration is open, and has nothing; one without is not open.
func TestNew(t *testing.T) {
	for _, x := range []struct {
		node int
		c    api.Conf
	}{
		{1, of(1)}, {1, of(1, 2)}, {2, of(1, 2)}, {24, of(5, 24, 3, 1, 9)}, {3, joined(of(1, 2, 3), 4)}, {1, joined(of(1, 2, 3), 4)},
		{1, api.Conf{}}, {24, api.Conf{}}, {7, api.Conf{Nodes: []int{}}},
	} {
		r := made(t, x.node, x.c)
		spare := x.c.Epoch == 0
		is(t, r, 0, 0, !spare)
		got(t, r, 0, false)
		if !conf.Same(r.Conf(), x.c) || r.Role() != role.Of(x.c, x.node) || r.Low() != 0 || r.Caught() || len(r.Store().Keys()) != 0 {
			t.Error(x.node, x.c, r.Conf(), r.Role())
		}
		if r.Role().Succ != 0 { // base 0
			same(t, r.Tick(), push(x.c, x.node, r.Role().Succ, 0, 0))
		} else {
			same(t, r.Tick())
		}
	}
}

// P23.1: nodes that there are not, and configurations that are not valid, or in which the node is none of the Nodes, or that are Fresh.
func TestNewWrong(t *testing.T) {
	for _, x := range []struct {
		node int
		c    api.Conf
	}{
		{0, api.Conf{}}, {-1, api.Conf{}}, {25, api.Conf{}}, {math.MinInt, api.Conf{}}, {math.MaxInt, api.Conf{}}, {0, of(1)}, {101, of(1)},
		{3, of(1, 2)}, {3, joined(of(1, 2), 3)}, {1, fresh(of(1, 2))}, {2, fresh(of(1, 2))}, {3, fresh(of(1, 2))},
		{1, of()}, {1, of(1, 1)}, {1, of(1, 25)}, {1, of(1, 2, 3, 4, 5, 6)}, {1, joined(of(1, 2), 2)}, {1, fresh(joined(of(1, 2), 3))},
		{1, api.Conf{Chain: 4, Epoch: 7, Nodes: []int{1}}}, {1, api.Conf{Chain: -1, Epoch: 7, Nodes: []int{1}}}, {1, api.Conf{Chain: 1, Nodes: []int{1}}},
		{1, api.Conf{Chain: 1}}, {1, api.Conf{Epoch: 1}}, {1, api.Conf{Fresh: true}}, {1, api.Conf{Join: 1}}, {1, api.Conf{Nodes: []int{1}}},
	} {
		if r, e := replica.New(x.node, x.c); r != nil || e != api.ErrArg {
			t.Error(x.node, x.c, r, int(e))
		}
	}
}

// P23.1, P23.2: nil does nothing.
func TestNil(t *testing.T) {
	var x *replica.Replica
	if l, ok := x.Adopt(of(1)); len(l) != 0 || ok {
		t.Error(l, ok)
	}
	if len(x.Take(ask(of(1), 1, at(1)))) != 0 || len(x.Tick()) != 0 || !conf.Same(x.Conf(), api.Conf{}) || x.Role() != (role.Role{}) || x.Open() {
		t.Error("nil does something")
	}
	if x.End() != 0 || x.Done() != 0 || x.Low() != 0 || x.Caught() || x.Store() != nil {
		t.Error("nil has something")
	}
	got(t, x, 0, false)
}

// P23.1, P23.2: neither what is passed nor what is returned shares memory with a replica, except for the store, which is the replica's own.
func TestMemory(t *testing.T) {
	c := joined(of(1), 2)
	x := made(t, 1, c)
	c.Nodes[0] = 9
	x.Conf().Nodes[0] = 9
	if conf.Text(x.Conf()) != "chain 1 epoch 7: 1 +2" {
		t.Error(conf.Text(x.Conf()))
	}
	c = later(of(1, 3), 1)
	x.Adopt(c)
	c.Nodes[0] = 9
	if conf.Text(x.Conf()) != "chain 1 epoch 8: 1 3" {
		t.Error(conf.Text(x.Conf()))
	}
	c = x.Conf()
	takes(t, x, ack(c, 3, 1, 0, 0), push(c, 1, 3, 0, 0))
	l := ask(c, 1, at(1))
	sent := x.Take(l)
	l.Updates[0].Data[0], l.Updates[0].Key = 99, 99
	same(t, sent, push(c, 1, 3, 1, 0, at(1)))
	sent[0].Updates[0].Data[0], sent[0].Updates[0].Key = 99, 99
	same(t, x.Tick(), push(c, 1, 3, 1, 0, at(1)))
	if v := x.Store().Last(1); !bytes.Equal(v.Data, at(1).Data) {
		t.Error(v)
	}
	store := x.Store()
	x.Take(ask(c, 1, at(2)))
	if store != x.Store() || store.End() != 2 {
		t.Error("not the store itself")
	}
}

// P23.1: a spare node adopts configurations where it occurs, others only newer ones of the chain.
func TestAdopt(t *testing.T) {
	first := api.Conf{Chain: 0, Epoch: 1, Nodes: []int{1, 2}}
	for _, x := range []struct {
		node int
		old  api.Conf
		c    api.Conf
		ok   bool
	}{
		{3, api.Conf{}, of(1, 2, 3), true}, {3, api.Conf{}, of(3), true}, {3, api.Conf{}, fresh(of(1, 3)), true}, {3, api.Conf{}, joined(of(1), 3), true},
		{3, api.Conf{}, of(1, 2), false}, {3, api.Conf{}, first, false}, {3, api.Conf{}, joined(first, 4), false}, {3, api.Conf{}, joined(first, 3), true},
		{3, api.Conf{}, api.Conf{}, false}, {3, api.Conf{}, of(3, 3), false}, {3, api.Conf{}, api.Conf{Chain: 1, Nodes: []int{3}}, false}, {3, api.Conf{}, fresh(of(3)), false},
		{2, of(1, 2), later(of(1, 2), 1), true}, {2, of(1, 2), later(of(2), 100), true}, {2, of(1, 2), later(of(1), 1), true}, {2, of(1, 2), later(joined(of(1), 2), 1), true},
		{2, of(1, 2), later(fresh(of(1, 2)), 1), true}, {2, of(1, 2), api.Conf{Chain: 1, Epoch: math.MaxUint64, Nodes: []int{9}}, true},
		{2, of(1, 2), of(1, 2), false}, {2, of(1, 2), of(2), false}, {2, of(1, 2), api.Conf{Chain: 1, Epoch: 6, Nodes: []int{2}}, false},
		{2, of(1, 2), api.Conf{Chain: 2, Epoch: 8, Nodes: []int{1, 2}}, false}, {2, of(1, 2), api.Conf{}, false},
		{2, of(1, 2), later(of(2, 2), 1), false}, {2, of(1, 2), later(of(), 1), false}, {2, of(1, 2), later(fresh(of(2)), 1), false},
	} {
		r := made(t, x.node, x.old)
		if l, ok := r.Adopt(x.c); len(l) != 0 || ok != x.ok {
			t.Error(conf.Text(x.old), x.c, l, ok)
		}
		want := x.old
		if x.ok {
			want = x.c
		}
		is(t, r, 0, 0, x.old.Epoch != 0)
		if !conf.Same(r.Conf(), want) || r.Role() != role.Of(want, x.node) {
			t.Error(conf.Text(x.old), x.c, r.Conf(), r.Role())
		}
	}
}

// P23.1: one that was removed adopts a newer configuration of its chain, but no longer just any where it occurs.
func TestAdoptRemoved(t *testing.T) {
	x := made(t, 2, of(1, 2))
	adopt(t, x, later(of(1), 1))
	if _, ok := x.Adopt(api.Conf{Chain: 2, Epoch: 20, Nodes: []int{2}}); ok {
		t.Error("adopted one of another chain")
	}
	same(t, x.Tick())
	takes(t, x, push(later(of(1), 1), 1, 2, 1, 0, at(1)))
	is(t, x, 0, 0, true)
	adopt(t, x, later(joined(of(1), 2), 2))
	is(t, x, 0, 0, true)
}

// P23.1: the new tail is done with all that it has, and acknowledges that, if it is not the head.
func TestAdoptTail(t *testing.T) {
	x := made(t, 2, of(1, 2, 3))
	fill(t, x, 2, 3)
	is(t, x, 3, 0, true)
	c := later(of(1, 2), 1)
	adopt(t, x, c, ack(c, 2, 1, 3, 3))
	is(t, x, 3, 3, true)
	adopt(t, x, later(c, 1)) // what is done does not increase again
	is(t, x, 3, 3, true)

	x = made(t, 2, of(1, 2, 3)) // with the Join behind it, too
	fill(t, x, 2, 2)
	c = later(joined(of(1, 2), 4), 1)
	adopt(t, x, c, ack(c, 2, 1, 2, 2))
	same(t, x.Tick(), push(c, 2, 4, 2, 2))

	x = made(t, 2, of(1, 2, 3)) // not the tail
	fill(t, x, 2, 3)
	adopt(t, x, later(of(1, 2, 4), 1))
	adopt(t, x, later(of(2, 4), 2))
	is(t, x, 3, 0, true)
	adopt(t, x, later(of(1, 4), 3)) // nor has it any role
	is(t, x, 3, 0, true)
}

// P23.1: a head that is alone answers each client whose last request becomes done, in the order of the updates.
func TestAdoptHead(t *testing.T) {
	x := made(t, 1, of(1, 2))
	c := of(1, 2)
	for i, u := range []api.Update{
		{Client: 3, Num: 1, Kind: api.Write, Key: 5}, {Client: 2, Num: 9, Kind: api.Compare, Key: 5, Ver: 4}, {Client: 3, Num: 2, Kind: api.Write, Key: 5}, {Client: 1, Num: 4, Kind: api.Compare, Key: 6},
	} {
		x.Take(ask(c, 1, u))
		is(t, x, uint64(i+1), 0, true)
	}
	adopt(t, x, later(of(1), 1), wrote(1, 2, 9, api.ErrMatch, 1), wrote(1, 3, 2, api.OK, 2), wrote(1, 1, 4, api.OK, 1)) // update 1 is not client 3's last one
	is(t, x, 4, 4, true)
	if n := len(x.Store().Keys()); n != 2 || x.Store().Trim(4) != 0 {
		t.Error("not trimmed", n)
	}
}

// P23.1: by adopting, the end becomes the base, and what Succ has received is unknown.
func TestAdoptForgets(t *testing.T) {
	x := made(t, 1, of(1, 2))
	takes(t, x, ack(of(1, 2), 2, 1, 0, 0), push(of(1, 2), 1, 2, 0, 0))
	serve(t, x, 1, 5)
	takes(t, x, ack(of(1, 2), 2, 1, 3, 2), wrote(1, 2, 1, api.OK, 1), wrote(1, 3, 2, api.OK, 1), push(of(1, 2), 1, 2, 5, 0, at(4), at(5)))
	got(t, x, 3, true)
	c := later(of(1, 3), 1)
	adopt(t, x, c)
	got(t, x, 0, false)
	is(t, x, 5, 2, true)
	same(t, x.Tick(), push(c, 1, 3, 5, 5))
	takes(t, x, ask(c, 1, at(6)), push(c, 1, 3, 6, 5))
	takes(t, x, ack(c, 3, 1, 1, 0), push(c, 1, 3, 6, 5, run(2, 5)...))
	got(t, x, 1, true)
}

// P23.1: by adopting, pictures are forgotten: the outgoing one is made anew, and of the incoming one nothing remains.
func TestAdoptForgetsPictures(t *testing.T) {
	x := made(t, 1, joined(of(1), 2))
	serve(t, x, 1, 40)
	c := joined(of(1), 2)
	picture := x.Store().Picture()
	takes(t, x, ack(c, 2, 1, 0, 0), part(c, 1, 2, 40, 0, 1, picture))
	takes(t, x, ask(c, 1, at(41)), wrote(1, client(41), 41, api.OK, 14), part(c, 1, 2, 40, 0, 1, picture))
	c = later(joined(of(1), 3), 1)
	adopt(t, x, c)
	takes(t, x, ack(c, 3, 1, 0, 0), part(c, 1, 3, 41, 0, 1, x.Store().Picture()))

	y := drawn(t, 3, c)
	takes(t, y, part(c, 1, 3, 41, 0, 2, make([]byte, 1024)), wants(c, 3, 1, 0, 0, 41, 1))
	c = later(c, 1)
	adopt(t, y, c)
	takes(t, y, push(c, 1, 3, 41, 41), wants(c, 3, 1, 0, 0, 0, 0))
	takes(t, y, part(c, 1, 3, 41, 1, 2, make([]byte, 3)), wants(c, 3, 1, 0, 0, 41, 0))
	takes(t, y, part(c, 1, 3, 40, 0, 1, picture), wants(c, 3, 1, 0, 0, 41, 0)) // an older one
	takes(t, y, part(c, 1, 3, 41, 0, 1, x.Store().Picture()), wants(c, 3, 1, 41, 41, 41, 0))
}
