package role_test

import (
	"math"
	"math/rand"
	"slices"
	"testing"

	"catenary/api"
	"catenary/conf"
	"catenary/letter"
	"catenary/role"
)

// of returns a configuration of the chain 1 in the epoch 7.
func of(nodes ...int) api.Conf {
	return api.Conf{Chain: 1, Epoch: 7, Nodes: nodes}
}

func fresh(c api.Conf) api.Conf {
	c.Fresh = true
	return c
}

func joined(c api.Conf, node int) api.Conf {
	c.Join = node
	return c
}

// wrongs are configurations that are not valid, in which the nodes 1 and 2 occur.
func wrongs() []api.Conf {
	return []api.Conf{
		{}, {Chain: 1, Nodes: []int{1, 2}}, {Chain: -1, Epoch: 7, Nodes: []int{1, 2}}, {Chain: 4, Epoch: 7, Nodes: []int{1, 2}},
		of(), of(1, 2, 1), of(1, 2, 0), of(1, 2, 25), of(1, 2, -3), of(1, 2, 3, 4, 5, 6), fresh(of(1)), fresh(joined(of(1, 2), 3)),
		joined(of(1, 2), 2), joined(of(1, 2), 25), joined(of(1, 2), -1), joined(of(), 1),
	}
}

// confs are valid configurations.
func confs() []api.Conf {
	return []api.Conf{
		of(1), joined(of(1), 2), of(1, 2), fresh(of(1, 2)), of(3, 1), joined(of(1, 2, 3), 4), of(1, 2, 3), fresh(of(1, 2, 3)),
		of(5, 24, 3, 1, 9), joined(of(5, 24, 3, 1, 9), 2), fresh(of(5, 24, 3, 1, 9)),
	}
}

// P19.1: the roles in a chain with a Join, in one with a Fresh tail, in one of a single node; nodes that do not occur have none.
func TestOf(t *testing.T) {
	for _, x := range []struct {
		c    api.Conf
		node int
		want role.Role
	}{
		{joined(of(1, 2, 3), 4), 1, role.Role{In: true, Head: true, Place: 0, Succ: 2}},
		{joined(of(1, 2, 3), 4), 2, role.Role{In: true, Place: 1, Pred: 1, Succ: 3}},
		{joined(of(1, 2, 3), 4), 3, role.Role{In: true, Tail: true, Place: 2, Pred: 2, Succ: 4}},
		{joined(of(1, 2, 3), 4), 4, role.Role{Joins: true, Waits: true, Pred: 3}},
		{joined(of(1, 2, 3), 4), 5, role.Role{}},
		{joined(of(1, 2, 3), 4), 0, role.Role{}},
		{of(1, 2, 3), 3, role.Role{In: true, Tail: true, Place: 2, Pred: 2}},
		{of(1, 2, 3), 4, role.Role{}},
		{of(1, 2, 3), 0, role.Role{}},
		{of(1, 2, 3), -1, role.Role{}},
		{of(1, 2, 3), math.MinInt, role.Role{}},
		{of(1, 2, 3), math.MaxInt, role.Role{}},
		{fresh(of(6, 2)), 6, role.Role{In: true, Head: true, Succ: 2}},
		{fresh(of(6, 2)), 2, role.Role{In: true, Tail: true, Waits: true, Place: 1, Pred: 6}},
		{fresh(of(6, 2, 8)), 2, role.Role{In: true, Place: 1, Pred: 6, Succ: 8}},
		{of(9), 9, role.Role{In: true, Head: true, Tail: true}},
		{joined(of(9), 24), 9, role.Role{In: true, Head: true, Tail: true, Succ: 24}},
		{joined(of(9), 24), 24, role.Role{Joins: true, Waits: true, Pred: 9}},
		{joined(of(5, 24, 3, 1, 9), 2), 9, role.Role{In: true, Tail: true, Place: 4, Pred: 1, Succ: 2}},
		{joined(of(5, 24, 3, 1, 9), 2), 2, role.Role{Joins: true, Waits: true, Pred: 9}},
	} {
		if got := role.Of(x.c, x.node); got != x.want {
			t.Errorf("%s, %d: %+v", conf.Text(x.c), x.node, got)
		}
	}
}

// P19.1: no node has a role in a configuration that is not valid, nor has that one a head or a tail.
func TestOfWrong(t *testing.T) {
	for _, c := range wrongs() {
		for node := -1; node <= 25; node++ {
			if got := role.Of(c, node); got != (role.Role{}) {
				t.Errorf("%+v, %d: %+v", c, node, got)
			}
		}
		if role.Head(c) != 0 || role.Tail(c) != 0 {
			t.Errorf("%+v: %d %d", c, role.Head(c), role.Tail(c))
		}
	}
}

// P19.1: the first node and the last one; a Join is neither.
func TestEnds(t *testing.T) {
	for _, x := range []struct {
		c          api.Conf
		head, tail int
	}{
		{of(4), 4, 4}, {joined(of(4), 5), 4, 4}, {of(4, 2), 4, 2}, {fresh(of(4, 2)), 4, 2}, {joined(of(5, 24, 3, 1, 9), 2), 5, 9},
	} {
		if role.Head(x.c) != x.head || role.Tail(x.c) != x.tail {
			t.Errorf("%s: %d %d", conf.Text(x.c), role.Head(x.c), role.Tail(x.c))
		}
	}
}

// P19.1: a valid configuration is newer than anything of its chain with a lesser epoch.
func TestNewer(t *testing.T) {
	at := func(chain int, epoch uint64) api.Conf {
		return api.Conf{Chain: chain, Epoch: epoch, Nodes: []int{1, 2}}
	}
	for _, x := range []struct {
		old, c api.Conf
		want   bool
	}{
		{at(1, 6), at(1, 7), true}, {at(1, 1), at(1, math.MaxUint64), true},
		{at(1, 7), at(1, 7), false}, {at(1, 8), at(1, 7), false}, {at(1, math.MaxUint64), at(1, 1), false},
		{at(0, 6), at(1, 7), false}, {at(2, 6), at(1, 7), false},
		{api.Conf{Chain: 1}, at(1, 1), true}, {api.Conf{}, at(0, 1), true}, {api.Conf{}, at(1, 1), false},
		{api.Conf{Chain: 1, Epoch: 6, Nodes: []int{9, 9, -1}, Fresh: true, Join: 9}, of(1, 2), true},
		{at(1, 6), of(), false}, {at(1, 6), of(1, 1), false}, {at(4, 6), at(4, 7), false}, {at(-1, 6), at(-1, 7), false}, {api.Conf{}, api.Conf{}, false},
	} {
		if got := role.Newer(x.old, x.c); got != x.want {
			t.Errorf("%+v, %+v: %v", x.old, x.c, got)
		}
	}
}

// letterOf returns a valid letter of the kind; of the chain 1 and the epoch 7, if it has these.
func letterOf(kind, from, to int) api.Letter {
	l := api.Letter{Kind: kind, From: from, To: to}
	switch kind {
	case api.LPush, api.LAck, api.LPart, api.LQuery, api.LTold, api.LWrite, api.LRead:
		l.Chain, l.Epoch = 1, 7
	case api.LPrepare, api.LPromise, api.LAccept, api.LAccepted, api.LBeat, api.LRefuse:
		l.Ballot = 9
	case api.LLocate:
		l.Chain = 1
	case api.LConfig:
		l.Conf = of(1, 2)
	}
	if kind == api.LWrite {
		l.Updates = []api.Update{{Client: 1, Num: 1, Kind: api.Write}}
	}
	return l
}

// fencedKinds are those that a fence may admit.
func fencedKinds() []int {
	return []int{api.LPush, api.LAck, api.LPart, api.LQuery, api.LTold, api.LWrite, api.LRead}
}

// admits says by the definition who is admitted, in other words than the program.
func admits(c api.Conf, node, kind, from int) bool {
	at, all := slices.Index(c.Nodes, node), c.Nodes
	if c.Join != 0 {
		all = append(slices.Clone(c.Nodes), c.Join)
	}
	place, tail := slices.Index(all, node), c.Nodes[len(c.Nodes)-1]
	if place < 0 {
		return false
	}
	client := from > 200
	switch kind {
	case api.LPush, api.LPart:
		return place > 0 && all[place-1] == from
	case api.LAck:
		return place+1 < len(all) && all[place+1] == from
	case api.LQuery:
		return node == tail && from != node && slices.Contains(c.Nodes, from)
	case api.LTold:
		return at >= 0 && node != tail && from == tail
	case api.LWrite:
		return client && at == 0
	}
	return kind == api.LRead && client && at >= 0
}

// addresses are all that there are.
func addresses() []int {
	var l []int
	for a := range 300 {
		if letter.Address(a) {
			l = append(l, a)
		}
	}
	return l
}

// P19.2: letters of each kind, from everyone to everyone, in each configuration, are admitted as the definition says.
func TestFence(t *testing.T) {
	admitted := map[int]int{}
	for _, c := range confs() {
		for kind := 1; kind <= api.Letters; kind++ {
			for _, from := range addresses() {
				for _, node := range append(addresses(), 1, 2) {
					want := api.ErrState
					if admits(c, node, kind, from) {
						want = api.OK
						admitted[kind]++
					}
					if got := role.Fence(c, node, letterOf(kind, from, node)); got != want {
						t.Fatalf("%s: %s from %d to %d: %d", conf.Text(c), letter.Name(kind), from, node, got)
					}
				}
			}
		}
	}
	for _, kind := range fencedKinds() {
		if admitted[kind] < 5 {
			t.Error("hardly any is admitted", letter.Name(kind))
		}
	}
	if len(admitted) != len(fencedKinds()) {
		t.Error("kinds", len(admitted))
	}
}

// right is a letter that its fence admits.
func right(kind int) (api.Conf, int, api.Letter) {
	c := joined(of(1, 2, 3), 4)
	switch kind {
	case api.LPush, api.LPart:
		return c, 4, letterOf(kind, 3, 4)
	case api.LAck:
		return c, 3, letterOf(kind, 4, 3)
	case api.LQuery:
		return c, 3, letterOf(kind, 1, 3)
	case api.LTold:
		return c, 1, letterOf(kind, 3, 1)
	case api.LWrite:
		return c, 1, letterOf(kind, 201, 1)
	}
	return c, 2, letterOf(kind, 206, 2)
}

// P19.2: what is wrong with a letter, alone and together: the error that is named first is told.
func TestFenceErrors(t *testing.T) {
	for _, kind := range fencedKinds() {
		c, node, l := right(kind)
		if e := role.Fence(c, node, l); e != api.OK {
			t.Fatal(letter.Name(kind), e)
		}
		form, other, chain, epoch, state := l, l, l, l, l
		form.Ballot = 9
		other.To = 9
		chain.Chain, chain.Epoch = 2, 7
		epoch.Epoch = 8
		state.From = 104
		for _, x := range []struct {
			l    api.Letter
			want api.Errno
		}{{form, api.ErrForm}, {other, api.ErrNone}, {chain, api.ErrNone}, {epoch, api.ErrEpoch}, {state, api.ErrState}} {
			if e := role.Fence(c, node, x.l); e != x.want {
				t.Error(letter.Name(kind), x.want, e)
			}
		}
		// All of it is wrong; then all but the form; and so on.
		all := api.Letter{Kind: kind, From: 104, To: 9, Chain: 2, Epoch: 6, Ballot: 9, Updates: l.Updates}
		for _, x := range []struct {
			mend func()
			want api.Errno
		}{
			{func() {}, api.ErrForm},
			{func() { all.Ballot = 0 }, api.ErrNone},
			{func() { all.To = node }, api.ErrNone},
			{func() { all.Chain = 1 }, api.ErrEpoch},
			{func() { all.Epoch = 7 }, api.ErrState},
			{func() { all.From = l.From }, api.OK},
		} {
			x.mend()
			if e := role.Fence(c, node, all); e != x.want {
				t.Error(letter.Name(kind), x.want, e)
			}
		}
		for _, epoch := range []uint64{1, 6, 8, math.MaxUint64} {
			l.Epoch = epoch
			if e := role.Fence(c, node, l); e != api.ErrEpoch {
				t.Error(letter.Name(kind), epoch, e)
			}
		}
	}
}

// P19.2: letters of kinds that no fence admits, of whatever chain: first their form, then whether they are to the node and the configuration is valid, then ErrState.
func TestFenceOtherKinds(t *testing.T) {
	c := of(1, 2)
	for kind := 1; kind <= api.Letters; kind++ {
		if slices.Contains(fencedKinds(), kind) {
			continue
		}
		l := letterOf(kind, 1, 2)
		if e := role.Fence(c, 2, l); e != api.ErrState {
			t.Error(letter.Name(kind), e)
		}
		if e := role.Fence(c, 1, l); e != api.ErrNone {
			t.Error(letter.Name(kind), e)
		}
		if e := role.Fence(of(1, 1), 2, l); e != api.ErrNone {
			t.Error(letter.Name(kind), e)
		}
		l.From = 0
		if e := role.Fence(c, 2, l); e != api.ErrForm {
			t.Error(letter.Name(kind), e)
		}
	}
	for chain := range api.MaxChains {
		if e := role.Fence(c, 2, api.Letter{Kind: api.LLocate, From: 1, To: 2, Chain: chain}); e != api.ErrState {
			t.Error(chain, e)
		}
	}
	for _, kind := range []int{math.MinInt, -1, 0, 21, math.MaxInt} {
		if e := role.Fence(c, 2, api.Letter{Kind: kind, From: 1, To: 2, Chain: 1, Epoch: 7}); e != api.ErrForm {
			t.Error(kind, e)
		}
	}
}

// P19.2: in a configuration that is not valid nothing is admitted, to whomever; a letter that is not valid comes first.
func TestFenceWrong(t *testing.T) {
	for _, c := range wrongs() {
		for _, kind := range fencedKinds() {
			_, node, l := right(kind)
			l.Chain = max(c.Chain, 0) % api.MaxChains
			if e := role.Fence(c, node, l); e != api.ErrNone {
				t.Errorf("%+v: %s: %d", c, letter.Name(kind), e)
			}
			l.To = 0
			if e := role.Fence(c, node, l); e != api.ErrForm {
				t.Errorf("%+v: %s: %d", c, letter.Name(kind), e)
			}
		}
	}
}

// P19.3: a node reports those of its neighbours that are down, the one before it first.
func TestReports(t *testing.T) {
	c := joined(of(1, 2, 3), 4)
	remove := func(node int) api.Cmd { return api.Cmd{Kind: api.Remove, Chain: 1, Epoch: 7, Node: node} }
	for _, x := range []struct {
		c    api.Conf
		node int
		down []int
		want []api.Cmd
	}{
		{c, 2, []int{1}, []api.Cmd{remove(1)}},
		{c, 2, []int{3}, []api.Cmd{remove(3)}},
		{c, 2, []int{3, 1}, []api.Cmd{remove(1), remove(3)}},
		{c, 2, []int{1, 1, 3, 3}, []api.Cmd{remove(1), remove(3)}},
		{c, 2, []int{2, 4, 9}, nil},
		{c, 2, nil, nil},
		{c, 1, []int{0, 1, 2, 3, 4}, []api.Cmd{remove(2)}},
		{c, 3, []int{4, 3, 2, 1, 0}, []api.Cmd{remove(2), remove(4)}},
		{c, 4, []int{0, 1, 2, 3, 4}, []api.Cmd{remove(3)}},
		{c, 5, []int{0, 1, 2, 3, 4, 5}, nil},
		{c, 0, []int{0, 1, 2, 3, 4, 5}, nil},
		{of(1, 2, 3), 3, []int{0, 1, 2, 3}, []api.Cmd{remove(2)}},
		{fresh(of(1, 2)), 2, []int{-1, 0, 1}, []api.Cmd{remove(1)}},
		{of(1), 1, []int{0, 1}, nil},
		{of(1, 2, 1), 2, []int{0, 1, 2}, nil},
		{api.Conf{}, 0, []int{0}, nil},
	} {
		got := role.Reports(x.c, x.node, x.down)
		if !slices.Equal(got, x.want) {
			t.Errorf("%+v, %d, %v: %+v", x.c, x.node, x.down, got)
		}
	}
}

// P19.3: the chain and the epoch of the configuration are those of the reports.
func TestReportsOfOthers(t *testing.T) {
	c := api.Conf{Chain: 3, Epoch: math.MaxUint64, Nodes: []int{8, 24}}
	got := role.Reports(c, 8, []int{24})
	if len(got) != 1 || got[0] != (api.Cmd{Kind: api.Remove, Chain: 3, Epoch: math.MaxUint64, Node: 24}) {
		t.Error(got)
	}
}

// P19.3: pick chooses among the nodes, not among those who join; one below 0 chooses the first one.
func TestReader(t *testing.T) {
	c := joined(of(7, 3, 5), 4)
	for _, x := range []struct{ pick, want int }{
		{0, 7}, {1, 3}, {2, 5}, {3, 7}, {4, 3}, {300, 7}, {301, 3}, {-1, 7}, {-2, 7}, {math.MinInt, 7}, {math.MaxInt, c.Nodes[math.MaxInt%3]},
	} {
		if got := role.Reader(c, x.pick); got != x.want {
			t.Error(x.pick, got)
		}
	}
	if role.Reader(fresh(of(7, 3)), 1) != 3 || role.Reader(of(9), 17) != 9 {
		t.Error("other lengths")
	}
	for _, c := range wrongs() {
		for _, pick := range []int{-1, 0, 1, 2, math.MaxInt} {
			if got := role.Reader(c, pick); got != 0 {
				t.Errorf("%+v: %d", c, got)
			}
		}
	}
}

// P19.3: a configuration is missing when all of its settled nodes are down, whatever is with the others; one that is not valid has none that could be up.
func TestMissing(t *testing.T) {
	for _, x := range []struct {
		c    api.Conf
		down []int
		want bool
	}{
		{of(1, 2, 3), nil, false}, {of(1, 2, 3), []int{1, 2}, false}, {of(1, 2, 3), []int{2, 3}, false}, {of(1, 2, 3), []int{1, 3}, false},
		{of(1, 2, 3), []int{3, 1, 2}, true}, {of(1, 2, 3), []int{9, 3, 3, 1, 0, 2}, true},
		{fresh(of(1, 2, 3)), []int{1, 2}, true}, {fresh(of(1, 2, 3)), []int{1, 3}, false}, {fresh(of(1, 2, 3)), []int{1, 2, 3}, true}, {fresh(of(1, 2, 3)), []int{3}, false},
		{joined(of(1, 2), 3), []int{1, 2}, true}, {joined(of(1, 2), 3), []int{1, 3}, false}, {joined(of(1, 2), 3), []int{3}, false},
		{of(4), []int{4}, true}, {of(4), []int{5, -4, 0}, false},
		{of(), nil, true}, {of(1, 1), nil, true}, {of(1, 1), []int{1}, true},
	} {
		if got := role.Missing(x.c, x.down); got != x.want {
			t.Errorf("%+v, %v: %v", x.c, x.down, got)
		}
	}
}

// someConf returns a random valid configuration of the chain 1 in the epoch 7.
func someConf(r *rand.Rand) api.Conf {
	nodes := r.Perm(api.MaxNodes)[:2+r.Intn(api.MaxChain)]
	for at := range nodes {
		nodes[at]++
	}
	last := len(nodes) - 1
	switch c := of(nodes[:last]...); {
	case r.Intn(2) == 0:
		return joined(c, nodes[last])
	case last > 1 && r.Intn(2) == 0:
		return fresh(c)
	default:
		return c
	}
}

// P19.4: Pred and Succ are inverse to each other, and the roles of all nodes fit together.
func TestRolesFitTogether(t *testing.T) {
	r := rand.New(rand.NewSource(19))
	for range 2000 {
		c := someConf(r)
		heads, tails, joins, waits, in := 0, 0, 0, 0, 0
		count := func(n *int, is bool) {
			if is {
				*n++
			}
		}
		for node := 0; node <= api.MaxNodes; node++ {
			x := role.Of(c, node)
			count(&heads, x.Head)
			count(&tails, x.Tail)
			count(&joins, x.Joins)
			count(&waits, x.Waits)
			count(&in, x.In)
			if x.In && x.Joins || (x.Head || x.Tail) && !x.In || x.In && c.Nodes[x.Place] != node {
				t.Fatal(conf.Text(c), node, x)
			}
			if x.Pred != 0 && role.Of(c, x.Pred).Succ != node || x.Succ != 0 && role.Of(c, x.Succ).Pred != node {
				t.Fatal(conf.Text(c), node, x)
			}
		}
		joining, waiting := 0, 0
		count(&joining, c.Join != 0)
		count(&waiting, c.Join != 0 || c.Fresh)
		if heads != 1 || tails != 1 || joins != joining || waits != waiting || in != len(c.Nodes) {
			t.Fatal(conf.Text(c), heads, tails, joins, waits, in)
		}
	}
}

// P19.4: a letter that two fences admit has the epoch of both.
func TestFencesOfTwoEpochs(t *testing.T) {
	r := rand.New(rand.NewSource(20))
	both := 0
	for range 40000 {
		a := someConf(r)
		b := a
		if r.Intn(2) == 0 {
			b = someConf(r)
		}
		a.Epoch, b.Epoch = uint64(1+r.Intn(2)), uint64(1+r.Intn(2))
		x := role.Of(a, a.Nodes[r.Intn(len(a.Nodes))])
		node := a.Nodes[x.Place]
		kinds := fencedKinds()
		from := []int{x.Pred, x.Succ, role.Tail(a), 201}[r.Intn(4)]
		l := letterOf(kinds[r.Intn(len(kinds))], from, node)
		l.Epoch = uint64(1 + r.Intn(2))
		if role.Fence(a, node, l) != api.OK || role.Fence(b, node, l) != api.OK {
			continue
		}
		both++
		if l.Epoch != a.Epoch || l.Epoch != b.Epoch {
			t.Fatal(conf.Text(a), conf.Text(b), l)
		}
	}
	if both < 500 {
		t.Error("hardly any letter is admitted twice", both)
	}
}

// P1, P19: nothing that is given is changed, and the results are new memory.
func TestArguments(t *testing.T) {
	nodes := []int{1, 2, 3, 77}
	c := joined(of(nodes[:3]...), 4)
	down := []int{3, 1, 2, 4}
	for node := range 5 {
		role.Of(c, node)
		role.Reports(c, node, down)
		role.Fence(c, node, letterOf(api.LPush, 3, 4))
	}
	role.Missing(c, down)
	role.Reader(c, 5)
	if !slices.Equal(nodes, []int{1, 2, 3, 77}) || !slices.Equal(down, []int{3, 1, 2, 4}) || !conf.Same(c, joined(of(1, 2, 3), 4)) {
		t.Error("changed", nodes, down, c)
	}
	first := role.Reports(c, 2, down)
	first[0].Node = 99
	if role.Reports(c, 2, down)[0].Node != 1 {
		t.Error("shared")
	}
}
