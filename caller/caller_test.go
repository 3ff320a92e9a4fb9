package caller_test

import (
	"bytes"
	"fmt"
	"math"
	"slices"
	"testing"

	"catenary/api"
	"catenary/caller"
	"catenary/conf"
	"catenary/letter"
)

const (
	client  = 2
	address = api.Clients + client
	masters = 3
)

// The configurations with which a caller begins here: the keys 0 and 2 are in the first one, and 1 and 4 in the second one.
func begun() []api.Conf {
	return []api.Conf{{Chain: 0, Epoch: 5, Nodes: []int{1, 2}}, {Chain: 1, Epoch: 7, Nodes: []int{3, 4, 9}}}
}

func made(t *testing.T) *caller.Caller {
	t.Helper()
	c, e := caller.New(client, masters, begun())
	if c == nil || e != api.OK {
		t.Fatal(int(e))
	}
	return c
}

func write(key uint32, data string) api.Op {
	return api.Op{Kind: api.Write, Key: key, Data: []byte(data)}
}

func compare(key uint32, ver uint64, data string) api.Op {
	return api.Op{Kind: api.Compare, Key: key, Ver: ver, Data: []byte(data)}
}

func read(key uint32, pick int) api.Op {
	return api.Op{Kind: api.Read, Key: key, Pick: pick}
}

// writes is what is sent to the head of x for a Write or a Compare.
func writes(x api.Conf, num uint64, o api.Op) api.Letter {
	u := api.Update{Client: client, Num: num, Kind: o.Kind, Key: o.Key, Ver: o.Ver, Data: o.Data}
	return api.Letter{Kind: api.LWrite, From: address, To: x.Nodes[0], Chain: x.Chain, Epoch: x.Epoch, Updates: []api.Update{u}}
}

// reads is what is sent to a node of x for a Read.
func reads(x api.Conf, node int, num uint64, key uint32) api.Letter {
	return api.Letter{Kind: api.LRead, From: address, To: node, Chain: x.Chain, Epoch: x.Epoch, Num: num, Key: key}
}

func locate(chain, master int) api.Letter {
	return api.Letter{Kind: api.LLocate, From: address, To: api.Masters + master, Chain: chain}
}

func config(x api.Conf) api.Letter {
	return api.Letter{Kind: api.LConfig, From: 101, To: address, Conf: x}
}

func wrote(from int, num uint64, code api.Errno, ver uint64) api.Letter {
	return api.Letter{Kind: api.LWrote, From: from, To: address, Num: num, Code: code, Ver: ver}
}

func got(from int, num uint64, key uint32, ver uint64, data string) api.Letter {
	return api.Letter{Kind: api.LGot, From: from, To: address, Num: num, Key: key, Ver: ver, Data: []byte(data)}
}

// same holds letters to these, and to being valid.
func same(t *testing.T, sent []api.Letter, want ...api.Letter) {
	t.Helper()
	for i := range max(len(sent), len(want)) {
		switch {
		case i >= len(sent):
			t.Error("not sent:", tell(want[i]))
		case i >= len(want):
			t.Error("sent, too:", tell(sent[i]))
		case !letter.Same(sent[i], want[i]):
			t.Error("sent:", tell(sent[i]), "not:", tell(want[i]))
		case letter.Check(sent[i]) != api.OK:
			t.Error("not valid:", tell(sent[i]))
		}
	}
}

func tell(l api.Letter) string {
	return fmt.Sprintf("%s %+v", letter.Name(l.Kind), l)
}

// begins lets c begin o, and holds it to sending these.
func begins(t *testing.T, c *caller.Caller, o api.Op, want ...api.Letter) {
	t.Helper()
	sent, e := c.Begin(o)
	if e != api.OK {
		t.Error(o, "does not begin:", int(e))
	}
	same(t, sent, want...)
}

// takes lets c take l, and holds it to sending these.
func takes(t *testing.T, c *caller.Caller, l api.Letter, want ...api.Letter) {
	t.Helper()
	same(t, c.Take(l), want...)
}

func sameReply(a, b api.Reply) bool {
	return a.Code == b.Code && a.Ver == b.Ver && bytes.Equal(a.Data, b.Data)
}

func sameOp(a, b api.Op) bool {
	return a.Kind == b.Kind && a.Key == b.Key && a.Ver == b.Ver && bytes.Equal(a.Data, b.Data) && a.Pick == b.Pick
}

// waits holds c to an operation that is in progress, with the number num, and to what was answered before.
func waits(t *testing.T, c *caller.Caller, num, before uint64, r api.Reply) {
	t.Helper()
	if reply, ok := c.Reply(); ok || !sameReply(reply, api.Reply{}) || !c.Busy() || c.Num() != num {
		t.Error("the operation", c.Num(), "has", reply, ok, c.Busy())
	}
	wantLast(t, c, before, r)
}

// answered holds c to having an answer to its operation, which has the number num.
func answered(t *testing.T, c *caller.Caller, num uint64, r api.Reply) {
	t.Helper()
	if reply, ok := c.Reply(); !ok || !sameReply(reply, r) || c.Busy() || c.Num() != num {
		t.Error("the operation", c.Num(), "has", reply, ok, c.Busy())
	}
	wantLast(t, c, num, r)
}

func wantLast(t *testing.T, c *caller.Caller, num uint64, r api.Reply) {
	t.Helper()
	if last, reply := c.Last(); last != num || !sameReply(reply, r) {
		t.Error("the last answer is that of", last, reply, "not", num, r)
	}
}

// idle holds c to having begun nothing.
func idle(t *testing.T, c *caller.Caller) {
	t.Helper()
	if reply, ok := c.Reply(); ok || !sameReply(reply, api.Reply{}) || c.Busy() || c.Num() != 0 || !sameOp(c.Op(), api.Op{}) {
		t.Error(reply, ok, c.Busy(), c.Num(), c.Op())
	}
	wantLast(t, c, 0, api.Reply{})
}

// P26.1, P26.3: a new caller has no operation, and knows the configurations that it was given.
func TestNew(t *testing.T) {
	for who := 1; who <= api.MaxClients; who++ {
		for n := 1; n <= api.MaxMasters; n++ {
			c, e := caller.New(who, n, begun())
			if e != api.OK {
				t.Fatal(who, n, int(e))
			}
			idle(t, c)
			if c.Address() != 200+who || !slices.EqualFunc(c.Atlas().Confs(), begun(), conf.Same) {
				t.Error(who, c.Address(), c.Atlas().Confs())
			}
		}
	}
}

// P26.1: no such client, no such number of masters, no valid configurations.
func TestNewWrong(t *testing.T) {
	twice := []api.Conf{{Chain: 0, Epoch: 1, Nodes: []int{1}}, {Chain: 1, Epoch: 1, Nodes: []int{1}}}
	for _, x := range []struct {
		client, masters int
		l               []api.Conf
	}{
		{0, 3, begun()}, {-1, 3, begun()}, {7, 3, begun()}, {201, 3, begun()}, {math.MinInt, 3, begun()}, {math.MaxInt, 3, begun()},
		{2, 0, begun()}, {2, -1, begun()}, {2, 6, begun()}, {2, 103, begun()}, {2, math.MinInt, begun()}, {2, math.MaxInt, begun()},
		{2, 3, nil}, {2, 3, []api.Conf{}}, {2, 3, []api.Conf{{}}}, {2, 3, begun()[1:]}, {2, 3, twice}, {0, 0, nil},
	} {
		if c, e := caller.New(x.client, x.masters, x.l); c != nil || e != api.ErrArg {
			t.Error(x, c, int(e))
		}
	}
}

// P26.1: what is written is sent to the head of the key's chain, with the client's next number.
func TestBeginWrite(t *testing.T) {
	l := begun()
	for _, x := range []struct {
		o  api.Op
		to api.Conf
	}{
		{write(0, "a"), l[0]},
		{write(2, ""), l[0]},
		{write(1, "bc"), l[1]},
		{compare(0, 0, "d"), l[0]},
		{compare(1, 9, "e"), l[1]},
		{compare(4, math.MaxUint64, ""), l[1]},
		{write(math.MaxUint32, string(make([]byte, api.MaxValue))), l[0]},
		{api.Op{Kind: api.Write, Key: 1, Data: []byte("f"), Pick: 2}, l[1]}, // a pick is for reads alone
		{api.Op{Kind: api.Compare, Key: 1, Ver: 3, Data: []byte("g"), Pick: -1}, l[1]},
	} {
		c := made(t)
		begins(t, c, x.o, writes(x.to, 1, x.o))
		waits(t, c, 1, 0, api.Reply{})
		if !sameOp(c.Op(), x.o) {
			t.Error(c.Op(), "not", x.o)
		}
	}
}

// P26.1: what is read is asked of the node that the pick chooses.
func TestBeginRead(t *testing.T) {
	l := begun()
	for _, x := range []struct {
		key      uint32
		pick, to int
	}{
		{0, 0, 1}, {0, 1, 2}, {0, 2, 1}, {2, 3, 2}, {0, -1, 1}, {0, math.MinInt, 1}, {0, math.MaxInt, 2},
		{1, 0, 3}, {1, 1, 4}, {4, 2, 9}, {1, 3, 3}, {4, 5, 9}, {1, -7, 3}, {1, math.MaxInt, 4},
		{math.MaxUint32, 1, 2},
	} {
		c := made(t)
		chain := 0
		if x.key == 1 || x.key == 4 {
			chain = 1
		}
		begins(t, c, read(x.key, x.pick), reads(l[chain], x.to, 1, x.key))
		waits(t, c, 1, 0, api.Reply{})
		if !sameOp(c.Op(), read(x.key, x.pick)) {
			t.Error(c.Op())
		}
	}
	c := made(t)
	o := read(1, 1)
	o.Data = []byte{} // no Data, as if it were nil
	begins(t, c, o, reads(l[1], 4, 1, 1))
}

// P26.1: operations have the numbers 1, 2, and so on, whatever their kinds and keys are.
func TestBeginNumbers(t *testing.T) {
	c := made(t)
	l := begun()
	begins(t, c, write(0, "a"), writes(l[0], 1, write(0, "a")))
	takes(t, c, wrote(1, 1, api.OK, 4))
	answered(t, c, 1, api.Reply{Ver: 4})
	begins(t, c, read(1, 2), reads(l[1], 9, 2, 1))
	waits(t, c, 2, 1, api.Reply{Ver: 4})
	takes(t, c, got(9, 2, 1, 6, "x"))
	answered(t, c, 2, api.Reply{Ver: 6, Data: []byte("x")})
	begins(t, c, compare(4, 1, "b"), writes(l[1], 3, compare(4, 1, "b")))
	waits(t, c, 3, 2, api.Reply{Ver: 6, Data: []byte("x")})
	takes(t, c, wrote(3, 3, api.ErrMatch, 2))
	answered(t, c, 3, api.Reply{Code: api.ErrMatch, Ver: 2})
}

// wrongOps are operations that do not begin, and why.
func wrongOps() []struct {
	o api.Op
	e api.Errno
} {
	long := make([]byte, api.MaxValue+1)
	return []struct {
		o api.Op
		e api.Errno
	}{
		{api.Op{}, api.ErrArg},
		{api.Op{Kind: 4}, api.ErrArg},
		{api.Op{Kind: -1}, api.ErrArg},
		{api.Op{Kind: math.MinInt}, api.ErrArg},
		{api.Op{Kind: math.MaxInt, Ver: 1, Data: long}, api.ErrArg},
		{api.Op{Kind: api.Read, Ver: 1}, api.ErrForm},
		{api.Op{Kind: api.Read, Ver: math.MaxUint64}, api.ErrForm},
		{api.Op{Kind: api.Read, Data: []byte{0}}, api.ErrForm},
		{api.Op{Kind: api.Read, Data: long}, api.ErrForm},
		{api.Op{Kind: api.Read, Ver: 1, Data: long}, api.ErrForm},
		{api.Op{Kind: api.Write, Data: long}, api.ErrLong},
		{api.Op{Kind: api.Write, Ver: 1, Data: long}, api.ErrLong},
		{api.Op{Kind: api.Compare, Ver: 1, Data: long}, api.ErrLong},
		{api.Op{Kind: api.Write, Ver: 1}, api.ErrForm},
		{api.Op{Kind: api.Write, Ver: math.MaxUint64, Data: []byte("x")}, api.ErrForm},
	}
}

// P26.1: wrong operations do not begin, use no number up, and change nothing.
func TestBeginWrong(t *testing.T) {
	c := made(t)
	for _, x := range wrongOps() {
		if sent, e := c.Begin(x.o); e != x.e || len(sent) != 0 {
			t.Errorf("%.80s: %d, not %d, and %d letters", fmt.Sprint(x.o), e, x.e, len(sent))
		}
		idle(t, c)
	}
	begins(t, c, write(0, "a"), writes(begun()[0], 1, write(0, "a")))
	takes(t, c, wrote(1, 1, api.OK, 8))
	for _, x := range wrongOps() {
		if sent, e := c.Begin(x.o); e != x.e || len(sent) != 0 {
			t.Errorf("%.80s: %d, not %d, and %d letters", fmt.Sprint(x.o), e, x.e, len(sent))
		}
		answered(t, c, 1, api.Reply{Ver: 8})
		if !sameOp(c.Op(), write(0, "a")) {
			t.Error(c.Op())
		}
	}
	same(t, c.Tick())
	begins(t, c, read(0, 0), reads(begun()[0], 1, 2, 0))
}

// P26.1: while an operation is in progress no other one begins, and ErrState comes first.
func TestBeginBusy(t *testing.T) {
	for _, o := range []api.Op{write(0, "a"), compare(0, 3, "a"), read(0, 1)} {
		c := made(t)
		first, _ := c.Begin(o)
		ops := []api.Op{o, write(1, "b"), compare(1, 3, "c"), read(1, 1)}
		for _, x := range wrongOps() {
			ops = append(ops, x.o)
		}
		for _, x := range ops {
			if sent, e := c.Begin(x); e != api.ErrState || len(sent) != 0 {
				t.Errorf("%.80s: %d, and %d letters", fmt.Sprint(x), e, len(sent))
			}
		}
		waits(t, c, 1, 0, api.Reply{})
		if !sameOp(c.Op(), o) {
			t.Error(c.Op(), "not", o)
		}
		same(t, c.Tick(), first[0], locate(0, 2))
	}
}

// P26.2: a configuration that is news of the chain that is asked lets the operation be sent again, to whom that chain has now.
func TestTakeConfig(t *testing.T) {
	next := api.Conf{Chain: 1, Epoch: 9, Nodes: []int{4, 9}}
	for _, x := range []struct {
		o    api.Op
		want api.Letter
	}{
		{write(1, "a"), writes(next, 1, write(1, "a"))},
		{compare(4, 2, "b"), writes(next, 1, compare(4, 2, "b"))},
		{read(1, 0), reads(next, 4, 1, 1)},
		{read(4, 1), reads(next, 9, 1, 4)},
		{read(4, 2), reads(next, 4, 1, 4)},
	} {
		c := made(t)
		c.Begin(x.o)
		takes(t, c, config(next), x.want)
		takes(t, c, config(next)) // no news any more
		waits(t, c, 1, 0, api.Reply{})
		if of := c.Atlas().Of(1); !conf.Same(of, next) {
			t.Error(of)
		}
		same(t, c.Tick(), x.want, locate(1, 2))
	}
}

// P26.2: configurations come from anybody.
func TestTakeConfigFrom(t *testing.T) {
	c := made(t)
	c.Begin(write(0, "a"))
	for at, from := range []int{101, 105, 1, 24, 201, 202} {
		next := api.Conf{Chain: 0, Epoch: uint64(6 + at), Nodes: []int{2, 1}}
		l := config(next)
		l.From = from
		takes(t, c, l, writes(next, 1, write(0, "a")))
	}
}

// P26.2: configurations of another chain are learned, and nothing is sent.
func TestTakeConfigOfAnotherChain(t *testing.T) {
	c := made(t)
	c.Begin(write(0, "a"))
	next := api.Conf{Chain: 1, Epoch: 8, Nodes: []int{4}}
	takes(t, c, config(next))
	if !conf.Same(c.Atlas().Of(1), next) {
		t.Error(c.Atlas().Confs())
	}
	waits(t, c, 1, 0, api.Reply{})
}

// P26.2: configurations that are no news, or of no chain that there is, change nothing.
func TestTakeConfigWithoutNews(t *testing.T) {
	c := made(t)
	c.Begin(write(0, "a"))
	for _, x := range []api.Conf{
		begun()[0],
		{Chain: 0, Epoch: 5, Nodes: []int{2}},
		{Chain: 0, Epoch: 4, Nodes: []int{2}},
		{Chain: 2, Epoch: 9, Nodes: []int{2}},
		{Chain: 3, Epoch: 9, Nodes: []int{2}},
	} {
		takes(t, c, config(x))
	}
	if !slices.EqualFunc(c.Atlas().Confs(), begun(), conf.Same) {
		t.Error(c.Atlas().Confs())
	}
}

// P26.2: without an operation in progress a configuration is learned, and nothing is sent; the next operation goes there.
func TestTakeConfigIdle(t *testing.T) {
	c := made(t)
	next := api.Conf{Chain: 0, Epoch: 6, Nodes: []int{2}}
	takes(t, c, config(next))
	idle(t, c)
	begins(t, c, read(0, 7), reads(next, 2, 1, 0))
	takes(t, c, got(2, 1, 0, 0, ""))
	later := api.Conf{Chain: 0, Epoch: 7, Nodes: []int{2, 8}, Fresh: true}
	takes(t, c, config(later))
	answered(t, c, 1, api.Reply{})
	begins(t, c, read(0, 7), reads(later, 8, 2, 0))
}

// P26.2, P26.3: an LWrote of any node answers a Write or a Compare, with its code and version.
func TestTakeWrote(t *testing.T) {
	for _, o := range []api.Op{write(0, "a"), compare(0, 3, "a")} {
		for _, x := range []struct {
			from int
			code api.Errno
			ver  uint64
		}{
			{1, api.OK, 1}, {2, api.ErrMatch, 7}, {24, api.ErrFull, 0}, {9, 255, math.MaxUint64}, {1, api.OK, 0},
		} {
			c := made(t)
			c.Begin(o)
			takes(t, c, wrote(x.from, 1, x.code, x.ver))
			answered(t, c, 1, api.Reply{Code: x.code, Ver: x.ver})
			if !sameOp(c.Op(), o) {
				t.Error(c.Op())
			}
			same(t, c.Tick())
		}
	}
}

// P26.2, P26.3: an LGot of any node answers a Read, with OK, its version and its data.
func TestTakeGot(t *testing.T) {
	for _, x := range []struct {
		from int
		ver  uint64
		data string
	}{
		{1, 1, "x"}, {2, 0, ""}, {24, math.MaxUint64, string(make([]byte, api.MaxValue))}, {3, 2, ""},
	} {
		c := made(t)
		c.Begin(read(0, 1))
		takes(t, c, got(x.from, 1, 0, x.ver, x.data))
		answered(t, c, 1, api.Reply{Code: api.OK, Ver: x.ver, Data: []byte(x.data)})
		if !sameOp(c.Op(), read(0, 1)) {
			t.Error(c.Op())
		}
		same(t, c.Tick())
	}
}

// P26.2: letters that answer nothing.
func TestTakeNothing(t *testing.T) {
	second := func(o api.Op) *caller.Caller {
		c := made(t)
		c.Begin(write(0, "z"))
		c.Take(wrote(1, 1, api.OK, 5))
		c.Begin(o)
		return c
	}
	elsewhere, invalid, kindless := wrote(1, 2, api.OK, 1), wrote(1, 2, api.OK, 1), wrote(1, 2, api.OK, 1)
	elsewhere.To = address + 1
	invalid.Chain = 1 // no part of an LWrote
	kindless.Kind = 0
	code := wrote(1, 2, 256, 1)
	long := got(1, 2, 0, 1, string(make([]byte, api.MaxValue+1)))
	astray := got(1, 2, 0, 1, "x")
	astray.To = 1
	common := []api.Letter{
		{}, elsewhere, invalid, kindless, code, long, astray,
		wrote(1, 1, api.OK, 9), wrote(1, 3, api.OK, 9), wrote(1, 0, api.OK, 9), wrote(1, math.MaxUint64, api.OK, 9),
		wrote(101, 2, api.OK, 9), wrote(201, 2, api.OK, 9), wrote(address, 2, api.OK, 9), wrote(0, 2, api.OK, 9), wrote(25, 2, api.OK, 9), wrote(-1, 2, api.OK, 9),
		got(1, 1, 0, 9, "x"), got(1, 3, 0, 9, "x"), got(1, 0, 0, 9, "x"), got(1, 2, 2, 9, "x"), got(1, 2, 1, 9, "x"),
		got(101, 2, 0, 9, "x"), got(201, 2, 0, 9, "x"), got(0, 2, 0, 9, "x"), got(25, 2, 0, 9, "x"),
		{Kind: api.LBeat, From: 101, To: address, Ballot: 9},
		{Kind: api.LLocate, From: 1, To: address},
		{Kind: api.LTold, From: 1, To: address, Epoch: 5, Num: 2, Ver: 9},
		{Kind: api.LRead, From: 1, To: address, Epoch: 5, Num: 2},
		{Kind: api.LWrite, From: 1, To: address, Epoch: 5, Updates: []api.Update{{Client: client, Num: 2, Kind: api.Write}}},
		{Kind: api.LConfig, From: 101, To: address, Conf: api.Conf{Chain: 0, Epoch: 6}},
		{Kind: api.LConfig, From: 101, To: address + 1, Conf: api.Conf{Chain: 0, Epoch: 6, Nodes: []int{2}}},
		{Kind: api.LConfig, From: 0, To: address, Conf: api.Conf{Chain: 0, Epoch: 6, Nodes: []int{2}}},
	}
	for _, x := range []struct {
		o    api.Op
		more api.Letter
	}{
		{write(0, "a"), got(1, 2, 0, 9, "x")},
		{compare(0, 1, "a"), got(1, 2, 0, 9, "x")},
		{read(0, 1), wrote(1, 2, api.OK, 9)},
	} {
		c := second(x.o)
		for _, l := range append(slices.Clone(common), x.more) {
			takes(t, c, l)
			waits(t, c, 2, 1, api.Reply{Ver: 5})
			if !slices.EqualFunc(c.Atlas().Confs(), begun(), conf.Same) {
				t.Error(tell(l), "is learned")
			}
		}
	}
}

// P26.2: before the first operation nothing is answered, also not the number 0.
func TestTakeIdle(t *testing.T) {
	c := made(t)
	for _, l := range []api.Letter{wrote(1, 0, api.OK, 1), wrote(1, 1, api.OK, 1), got(1, 0, 0, 1, "x"), got(1, 1, 0, 1, "x")} {
		takes(t, c, l)
		idle(t, c)
	}
}

// P26.4: an operation is answered once, by the first answer.
func TestAnsweredOnce(t *testing.T) {
	c := made(t)
	c.Begin(write(0, "a"))
	takes(t, c, wrote(1, 1, api.ErrMatch, 4))
	for _, l := range []api.Letter{wrote(1, 1, api.OK, 5), wrote(2, 1, api.ErrFull, 0), got(1, 1, 0, 5, "x"), wrote(1, 1, api.ErrMatch, 4)} {
		takes(t, c, l)
		answered(t, c, 1, api.Reply{Code: api.ErrMatch, Ver: 4})
	}
	c.Begin(read(0, 0))
	takes(t, c, wrote(1, 1, api.OK, 5))
	waits(t, c, 2, 1, api.Reply{Code: api.ErrMatch, Ver: 4})
	takes(t, c, got(2, 2, 0, 7, "x"))
	for _, l := range []api.Letter{got(1, 2, 0, 8, "y"), wrote(1, 2, api.OK, 8), got(2, 2, 0, 0, ""), wrote(1, 1, api.OK, 5)} {
		takes(t, c, l)
		answered(t, c, 2, api.Reply{Ver: 7, Data: []byte("x")})
	}
}

// P26.2: at each tick the operation in progress is sent again, and the masters are asked in turn where its chain is.
func TestTick(t *testing.T) {
	l := begun()
	for _, x := range []struct {
		o     api.Op
		sent  api.Letter
		chain int
	}{
		{write(0, "a"), writes(l[0], 1, write(0, "a")), 0},
		{compare(1, 4, "b"), writes(l[1], 1, compare(1, 4, "b")), 1},
		{read(4, 2), reads(l[1], 9, 1, 4), 1},
	} {
		c := made(t)
		begins(t, c, x.o, x.sent)
		for _, master := range []int{2, 3, 1, 2, 3, 1, 2} {
			same(t, c.Tick(), x.sent, locate(x.chain, master))
			waits(t, c, 1, 0, api.Reply{})
		}
	}
}

// P26.2: ticks count while nothing is in progress, too; then nothing is sent.
func TestTickIdle(t *testing.T) {
	c := made(t)
	for range 4 {
		same(t, c.Tick())
		idle(t, c)
	}
	sent := writes(begun()[0], 1, write(0, "a"))
	begins(t, c, write(0, "a"), sent)
	same(t, c.Tick(), sent, locate(0, 3)) // the fifth one
	takes(t, c, wrote(1, 1, api.OK, 1))
	same(t, c.Tick())
	answered(t, c, 1, api.Reply{Ver: 1})
	begins(t, c, read(1, 0), reads(begun()[1], 3, 2, 1))
	same(t, c.Tick(), reads(begun()[1], 3, 2, 1), locate(1, 2)) // the seventh one
}

// P26.2: however many masters there are, they are asked in turn.
func TestTickMasters(t *testing.T) {
	for n := 1; n <= api.MaxMasters; n++ {
		c, _ := caller.New(client, n, begun())
		c.Begin(write(0, "a"))
		for tick := 1; tick <= 11; tick++ {
			same(t, c.Tick(), writes(begun()[0], 1, write(0, "a")), locate(0, 1+tick%n))
		}
	}
}

// P26.3: the atlas is the caller's own one.
func TestAtlas(t *testing.T) {
	c := made(t)
	next := api.Conf{Chain: 0, Epoch: 6, Nodes: []int{2}}
	if c.Atlas() != c.Atlas() || !c.Atlas().Learn(next) {
		t.Error("not its own")
	}
	begins(t, c, write(0, "a"), writes(next, 1, write(0, "a")))
}

// P26.1 to P26.3: a nil caller.
func TestNil(t *testing.T) {
	var c *caller.Caller
	for _, o := range []api.Op{write(0, "a"), read(0, 0), {}} {
		if sent, e := c.Begin(o); len(sent) != 0 || e != api.ErrNil {
			t.Error(sent, int(e))
		}
	}
	for _, l := range []api.Letter{{}, config(begun()[0]), wrote(1, 0, api.OK, 1), {Kind: api.LLocate, From: 1, To: 0}} {
		takes(t, c, l)
	}
	same(t, c.Tick())
	idle(t, c)
	if c.Atlas() != nil || c.Address() != 0 {
		t.Error(c.Atlas(), c.Address())
	}
}

// Rule 5: nothing that was passed is kept.
func TestArgumentsAreCopied(t *testing.T) {
	l := begun()
	c, _ := caller.New(client, masters, l)
	l[0].Nodes[0], l[1] = 20, api.Conf{}
	if !slices.EqualFunc(c.Atlas().Confs(), begun(), conf.Same) {
		t.Error(c.Atlas().Confs())
	}

	o := write(0, "abc")
	sent, _ := c.Begin(o)
	copy(o.Data, "xyz")
	same(t, sent, writes(begun()[0], 1, write(0, "abc")))
	same(t, c.Tick(), writes(begun()[0], 1, write(0, "abc")), locate(0, 2))
	if !sameOp(c.Op(), write(0, "abc")) {
		t.Error(c.Op())
	}

	next := api.Conf{Chain: 0, Epoch: 6, Nodes: []int{2, 1}}
	heard := config(api.Conf{Chain: 0, Epoch: 6, Nodes: []int{2, 1}})
	sent = c.Take(heard)
	heard.Conf.Nodes[0] = 20
	same(t, sent, writes(next, 1, write(0, "abc")))
	same(t, c.Tick(), writes(next, 1, write(0, "abc")), locate(0, 3))

	c.Take(wrote(2, 1, api.OK, 1))
	c.Begin(read(0, 0))
	answer := got(2, 2, 0, 1, "abc")
	c.Take(answer)
	copy(answer.Data, "xyz")
	answered(t, c, 2, api.Reply{Ver: 1, Data: []byte("abc")})
}

// Rule 5: nothing that was returned is the caller's own.
func TestResultsAreCopies(t *testing.T) {
	c := made(t)
	want := writes(begun()[0], 1, write(0, "abc"))
	sent, _ := c.Begin(write(0, "abc"))
	copy(sent[0].Updates[0].Data, "xyz")
	sent[0].Updates[0].Num = 9
	again := c.Tick()
	same(t, again, want, locate(0, 2))
	copy(again[0].Updates[0].Data, "xyz")
	o := c.Op()
	copy(o.Data, "xyz")
	same(t, c.Tick(), want, locate(0, 3))
	if !sameOp(c.Op(), write(0, "abc")) {
		t.Error(c.Op())
	}

	c.Take(wrote(1, 1, api.OK, 1))
	c.Begin(read(0, 0))
	c.Take(got(1, 2, 0, 1, "abc"))
	r, _ := c.Reply()
	copy(r.Data, "xyz")
	answered(t, c, 2, api.Reply{Ver: 1, Data: []byte("abc")})
	_, r = c.Last()
	copy(r.Data, "xyz")
	answered(t, c, 2, api.Reply{Ver: 1, Data: []byte("abc")})
}
