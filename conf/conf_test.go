package conf_test

import (
	"math"
	"math/rand"
	"slices"
	"testing"

	"catenary/api"
	"catenary/cmds"
	"catenary/conf"
	"catenary/fix"
)

// of returns a configuration with these nodes, of which the chain and the epoch are chosen.
func of(chain int, epoch uint64, nodes ...int) api.Conf {
	return api.Conf{Chain: chain, Epoch: epoch, Nodes: nodes}
}

func fresh(c api.Conf) api.Conf {
	c.Fresh = true
	return c
}

func joined(c api.Conf, node int) api.Conf {
	c.Join = node
	return c
}

// sample is a valid configuration, with what is said of it.
type sample struct {
	c       api.Conf
	settled []int
	bytes   []byte
	text    string
}

func samples() []sample {
	return []sample{
		{of(0, 1, 1), []int{1}, []byte{0, 0, 0, 0, 0, 0, 0, 0, 1, 0, 0, 1, 1}, "chain 0 epoch 1: 1"},
		{joined(of(0, 3, 2), 5), []int{2}, []byte{0, 0, 0, 0, 0, 0, 0, 0, 3, 0, 5, 1, 2}, "chain 0 epoch 3: 2 +5"},
		{of(1, 258, 7, 3), []int{7, 3}, []byte{1, 0, 0, 0, 0, 0, 0, 1, 2, 0, 0, 2, 7, 3}, "chain 1 epoch 258: 7 3"},
		{fresh(of(2, 9, 4, 24)), []int{4}, []byte{2, 0, 0, 0, 0, 0, 0, 0, 9, 1, 0, 2, 4, 24}, "chain 2 epoch 9: 4 24*"},
		{joined(of(3, math.MaxUint64, 24, 1, 12, 6, 19), 2), []int{24, 1, 12, 6, 19}, []byte{3, 255, 255, 255, 255, 255, 255, 255, 255, 0, 2, 5, 24, 1, 12, 6, 19}, "chain 3 epoch 18446744073709551615: 24 1 12 6 19 +2"},
		{fresh(of(3, 1<<63, 5, 4, 3, 2, 1)), []int{5, 4, 3, 2}, []byte{3, 128, 0, 0, 0, 0, 0, 0, 0, 1, 0, 5, 5, 4, 3, 2, 1}, "chain 3 epoch 9223372036854775808: 5 4 3 2 1*"},
		{joined(of(0, 10, 1, 2), 24), []int{1, 2}, []byte{0, 0, 0, 0, 0, 0, 0, 0, 10, 0, 24, 2, 1, 2}, "chain 0 epoch 10: 1 2 +24"},
		{fresh(of(1, 4, 1, 2, 3)), []int{1, 2}, []byte{1, 0, 0, 0, 0, 0, 0, 0, 4, 1, 0, 3, 1, 2, 3}, "chain 1 epoch 4: 1 2 3*"},
	}
}

// wrongs are configurations that are not valid.
func wrongs() []api.Conf {
	l := []api.Conf{
		{}, of(0, 0, 1), of(0, 0, 1, 2), of(0, 1), of(0, 1, 1, 1), of(0, 1, 1, 2, 1), of(0, 1, 1, 2, 3, 4, 4), of(0, 1, 1, 2, 3, 4, 5, 6), of(0, 1, make([]int, 1000)...),
		fresh(of(0, 1)), fresh(of(0, 1, 1)), fresh(joined(of(0, 1, 1, 2), 3)), fresh(joined(of(0, 1, 1), 3)), joined(of(0, 1), 3), joined(of(0, 1, 1, 2), 1), joined(of(0, 1, 1, 2), 2), joined(of(0, 1, 3), 3),
	}
	for _, chain := range []int{-1, 4, 5, 255, 256, 257, 1 << 32, math.MinInt, math.MaxInt} {
		l = append(l, of(chain, 1, 1, 2))
	}
	for _, node := range []int{-1, 0, 25, 101, 201, 256, 257, 1<<32 + 1, math.MinInt, math.MaxInt} {
		l = append(l, of(0, 1, node), of(0, 1, node, 1), of(0, 1, 1, node), fresh(of(0, 1, 1, 2, node)))
		if node != 0 {
			l = append(l, joined(of(0, 1, 1, 2), node))
		}
	}
	return l
}

// again returns the same list, made field by field.
func again(l []api.Conf) []api.Conf {
	var made []api.Conf
	for _, c := range l {
		made = append(made, api.Conf{Chain: c.Chain, Epoch: c.Epoch, Nodes: append([]int{}, c.Nodes...), Fresh: c.Fresh, Join: c.Join})
	}
	return made
}

func sameLists(a, b []api.Conf) bool {
	return slices.EqualFunc(a, b, func(x, y api.Conf) bool {
		return x.Chain == y.Chain && x.Epoch == y.Epoch && slices.Equal(x.Nodes, y.Nodes) && x.Fresh == y.Fresh && x.Join == y.Join
	})
}

// P9.1: which configurations are valid.
func TestRight(t *testing.T) {
	for _, s := range samples() {
		if !conf.Right(s.c) {
			t.Error(s.c, "is not valid")
		}
	}
	for _, c := range wrongs() {
		if conf.Right(c) {
			t.Error(c, "is valid")
		}
	}
	for _, node := range []int{1, 24} {
		if !conf.Right(of(0, 1, node)) || !conf.Right(joined(of(0, 1, 12), node)) {
			t.Error("the node", node)
		}
	}
}

// P9.1: which lists are valid: one configuration a chain, in order, and no node in two of them.
func TestAll(t *testing.T) {
	for _, l := range [][]api.Conf{
		{of(0, 1, 1)},
		{joined(of(0, 3, 2), 5), fresh(of(1, 9, 4, 24))},
		{of(0, 1, 1, 2, 3, 4, 5), of(1, 1, 6, 7, 8, 9, 10), of(2, 1, 11, 12, 13, 14, 15), joined(of(3, 1, 16, 17, 18, 19, 20), 21)},
		{joined(of(0, 1, 1), 2), joined(of(1, 1, 3), 4), joined(of(2, 1, 5), 6)},
	} {
		if !conf.All(l) {
			t.Error(l, "is not valid")
		}
	}
	for _, l := range [][]api.Conf{
		nil, {}, {{}},
		{of(1, 1, 1)}, {of(0, 1, 1), of(0, 1, 2)}, {of(1, 1, 1), of(0, 1, 2)}, {of(0, 1, 1), of(2, 1, 2)},
		{of(0, 1, 1), of(1, 1, 1)}, {of(0, 1, 1, 2), of(1, 1, 3, 2)}, {joined(of(0, 1, 1), 2), of(1, 1, 2)}, {of(0, 1, 1, 2), joined(of(1, 1, 3), 2)}, {joined(of(0, 1, 1), 3), joined(of(1, 1, 2), 3)},
		{of(0, 1, 1), of(1, 1, 2), of(2, 1, 1)}, {of(0, 1, 1), of(1, 1, 2), joined(of(2, 1, 3), 1)}, {of(0, 1, 9), of(1, 1, 2), of(2, 1, 3), of(3, 1, 9)},
		{of(0, 1, 1), of(1, 1, 2), of(2, 1, 3), of(3, 1, 4), of(4, 1, 5)}, {of(0, 1, 1), of(1, 1, 2), of(2, 1, 3), of(3, 1, 4), of(0, 1, 5)},
		make([]api.Conf, 1000),
	} {
		if conf.All(l) {
			t.Error(l, "is valid")
		}
	}
	for _, c := range wrongs() {
		if conf.All([]api.Conf{c}) || conf.All([]api.Conf{of(0, 1, 20), c}) {
			t.Error(c, "is in a valid list")
		}
	}
}

// P9.1: equal are those of which all fields are; nil and no nodes are equal.
func TestSame(t *testing.T) {
	l := append(wrongs(), of(0, 1, 2, 1), of(0, 1, 1, 2), of(0, 1, 1, 3), of(0, 1, 1, 2, 3), of(1, 1, 1, 2), of(0, 2, 1, 2), fresh(of(0, 1, 1, 2)), joined(of(0, 1, 1, 2), 3), joined(of(0, 1, 1, 2), 4))
	for _, s := range samples() {
		l = append(l, s.c)
	}
	copies := again(l)
	for i, a := range l {
		for j, b := range copies {
			want := sameLists([]api.Conf{a}, []api.Conf{b})
			if got := conf.Same(a, b); got != want || i == j && !got {
				t.Error(a, b, got)
			}
		}
	}
	if !conf.Same(api.Conf{Nodes: nil}, api.Conf{Nodes: []int{}}) {
		t.Error("nil and no nodes")
	}
}

// P9.1: a copy is the same list, valid or not, and shares no memory with it.
func TestCopy(t *testing.T) {
	l := wrongs()
	for _, s := range samples() {
		l = append(l, s.c)
	}
	was := again(l)
	made := conf.Copy(l)
	if !sameLists(made, was) || !sameLists(l, was) {
		t.Fatal("the copy is", made)
	}
	for i := range made {
		for at := range made[i].Nodes {
			made[i].Nodes[at]++
		}
		made[i].Nodes = append(made[i].Nodes, 77)
		made[i].Chain++
	}
	if !sameLists(l, was) {
		t.Error("a copy shares memory with its list")
	}
	if len(conf.Copy(nil)) != 0 || len(conf.Copy([]api.Conf{})) != 0 {
		t.Error("a copy of nothing")
	}
}

// P9.1: nodes with room behind them, as a caller may have cut them from more, stay as they are, and so does what is behind them.
func TestRoomBehindNodesIsNotWritten(t *testing.T) {
	room := []int{1, 2, 91, 92, 93, 94}
	l := []api.Conf{joined(of(0, 1, room[:2]...), 5), of(1, 1, 6)}
	l[0].Nodes = room[:2]
	c := api.Cmd{Kind: api.Promote, Epoch: 1, Node: 5}
	made, done := conf.Do(l, c)
	conf.All(l)
	conf.Can(l, c)
	conf.Used(l, 5)
	conf.Text(l[0])
	conf.Put(fix.New(100), l[0])
	settled := conf.Settled(l[0])
	_ = append(settled, 8)
	_ = append(conf.Copy(l)[0].Nodes, 8)
	if !done || !slices.Equal(made[0].Nodes, []int{1, 2, 5}) {
		t.Error(made, done)
	}
	if !slices.Equal(room, []int{1, 2, 91, 92, 93, 94}) {
		t.Error("behind the nodes there is", room)
	}
}

// P9.1: settled are all nodes but the last one of a Fresh configuration, in new memory; none of what is not valid.
func TestSettled(t *testing.T) {
	for _, s := range samples() {
		was := again([]api.Conf{s.c})
		got := conf.Settled(s.c)
		if !slices.Equal(got, s.settled) {
			t.Error("of", s.c, "are settled", got)
		}
		for at := range got {
			got[at] = 99
		}
		_ = append(got, 99)
		if !sameLists([]api.Conf{s.c}, was) {
			t.Error("settled nodes share memory with", s.c)
		}
	}
	for _, c := range wrongs() {
		if got := conf.Settled(c); len(got) != 0 {
			t.Error("of", c, "are settled", got)
		}
	}
}

// P9.1: used are nodes and Joins; no Join is no node.
func TestUsed(t *testing.T) {
	l := []api.Conf{joined(of(0, 1, 2, 1), 5), fresh(of(1, 9, 4, 24))}
	for _, node := range []int{2, 1, 5, 4, 24} {
		if !conf.Used(l, node) {
			t.Error(node, "is not used")
		}
	}
	for _, node := range []int{0, 3, 6, 9, 23, 25, -1, math.MinInt, math.MaxInt, 1<<32 + 1} {
		if conf.Used(l, node) {
			t.Error(node, "is used")
		}
	}
	if conf.Used(nil, 1) || conf.Used(nil, 0) || conf.Used([]api.Conf{{}}, 0) {
		t.Error("used by nothing")
	}
	if !conf.Used([]api.Conf{of(7, 0, 1, 1), of(0, 1, 30)}, 30) {
		t.Error("in a list that is not valid")
	}
}

// try is a command, what Can says of it, and, where it is possible, the text of its chain's configuration after it.
type try struct {
	c     api.Cmd
	e     api.Errno
	after string
}

func wantTry(t *testing.T, l []api.Conf, x try) {
	t.Helper()
	was := again(l)
	if e := conf.Can(l, x.c); e != x.e {
		t.Error(x.c, "for", l, "is", int(e), "want", int(x.e))
	}
	made, done := conf.Do(l, x.c)
	if done != (x.e == api.OK) {
		t.Error(x.c, "for", l, "is executed:", done)
	}
	if !done || x.c.Kind == api.Noop {
		if !sameLists(made, was) {
			t.Error(x.c, "for", was, "leads to", made)
		}
	} else {
		wantExecuted(t, was, made, x)
	}
	for i := range made {
		for at := range made[i].Nodes {
			made[i].Nodes[at] = 99
		}
		_ = append(made[i].Nodes, 99)
		made[i].Join = 98
	}
	if !sameLists(l, was) {
		t.Error(x.c, "changed", was, "to", l)
	}
}

func wantExecuted(t *testing.T, was, made []api.Conf, x try) {
	t.Helper()
	if len(made) != len(was) {
		t.Error(x.c, "for", was, "leads to", made)
		return
	}
	for i := range made {
		want := x.after
		if i != x.c.Chain {
			want = conf.Text(was[i])
		}
		if got := conf.Text(made[i]); got != want {
			t.Error(x.c, "for", was, "leads to", got, "want", want)
		}
	}
}

// cmd returns a command.
func cmd(kind, chain int, epoch uint64, node int) api.Cmd {
	return api.Cmd{Kind: kind, Chain: chain, Epoch: epoch, Node: node}
}

// P9.2: removing nodes.
func TestRemove(t *testing.T) {
	l := []api.Conf{joined(of(0, 3, 2), 5), fresh(of(1, 9, 4, 24)), fresh(of(2, 7, 10, 11, 12)), joined(of(3, 6, 13, 14), 15)}
	for _, x := range []try{
		{cmd(api.Remove, 0, 3, 5), api.OK, "chain 0 epoch 4: 2"},
		{cmd(api.Remove, 0, 3, 2), api.ErrState, ""},
		{cmd(api.Remove, 0, 3, 4), api.ErrNone, ""},
		{cmd(api.Remove, 0, 3, 1), api.ErrNone, ""},
		{cmd(api.Remove, 1, 9, 4), api.ErrState, ""},
		{cmd(api.Remove, 1, 9, 24), api.OK, "chain 1 epoch 10: 4"},
		{cmd(api.Remove, 2, 7, 10), api.OK, "chain 2 epoch 8: 11 12*"},
		{cmd(api.Remove, 2, 7, 11), api.OK, "chain 2 epoch 8: 10 12*"},
		{cmd(api.Remove, 2, 7, 12), api.OK, "chain 2 epoch 8: 10 11"},
		{cmd(api.Remove, 3, 6, 13), api.OK, "chain 3 epoch 7: 14 +15"},
		{cmd(api.Remove, 3, 6, 14), api.OK, "chain 3 epoch 7: 13 +15"},
		{cmd(api.Remove, 3, 6, 15), api.OK, "chain 3 epoch 7: 13 14"},
		{cmd(api.Remove, 3, 6, 5), api.ErrNone, ""},
		{cmd(api.Remove, 3, 5, 13), api.ErrEpoch, ""},
		{cmd(api.Remove, 3, 7, 13), api.ErrEpoch, ""},
		{cmd(api.Remove, 3, 7, 1), api.ErrEpoch, ""},
	} {
		wantTry(t, l, x)
	}
	wantTry(t, []api.Conf{of(0, 1, 1)}, try{cmd(api.Remove, 0, 1, 1), api.ErrState, ""})
	wantTry(t, []api.Conf{of(0, 1, 1, 2)}, try{cmd(api.Remove, 0, 1, 1), api.OK, "chain 0 epoch 2: 2"})
	wantTry(t, []api.Conf{of(0, 1, 5, 4, 3, 2, 1)}, try{cmd(api.Remove, 0, 1, 3), api.OK, "chain 0 epoch 2: 5 4 2 1"})
}

// P9.2: appending a node that is on its way.
func TestAppend(t *testing.T) {
	l := []api.Conf{joined(of(0, 3, 2), 5), fresh(of(1, 9, 4, 24)), of(2, 7, 10, 11, 12, 13, 14), of(3, 6, 15, 16, 17, 18)}
	for _, x := range []try{
		{cmd(api.Append, 3, 6, 1), api.OK, "chain 3 epoch 7: 15 16 17 18 +1"},
		{cmd(api.Append, 3, 6, 15), api.ErrThere, ""},
		{cmd(api.Append, 3, 6, 18), api.ErrThere, ""},
		{cmd(api.Append, 3, 6, 2), api.ErrThere, ""},
		{cmd(api.Append, 3, 6, 5), api.ErrThere, ""},
		{cmd(api.Append, 3, 6, 24), api.ErrThere, ""},
		{cmd(api.Append, 0, 3, 1), api.ErrState, ""},
		{cmd(api.Append, 0, 3, 5), api.ErrThere, ""},
		{cmd(api.Append, 1, 9, 1), api.ErrState, ""},
		{cmd(api.Append, 1, 9, 16), api.ErrThere, ""},
		{cmd(api.Append, 2, 7, 1), api.ErrFull, ""},
		{cmd(api.Append, 2, 7, 11), api.ErrThere, ""},
		{cmd(api.Append, 2, 6, 1), api.ErrEpoch, ""},
		{cmd(api.Append, 2, 8, 11), api.ErrEpoch, ""},
	} {
		wantTry(t, l, x)
	}
	full := []api.Conf{joined(of(0, 3, 1, 2, 3, 4, 5), 6), fresh(of(1, 3, 7, 8, 9, 10, 11))}
	wantTry(t, full, try{cmd(api.Append, 0, 3, 20), api.ErrState, ""})
	wantTry(t, full, try{cmd(api.Append, 1, 3, 20), api.ErrState, ""})
	wantTry(t, []api.Conf{of(0, 1, 2)}, try{cmd(api.Append, 0, 1, 5), api.OK, "chain 0 epoch 2: 2 +5"})
	wantTry(t, []api.Conf{of(0, 1, 2)}, try{cmd(api.Append, 0, 1, 24), api.OK, "chain 0 epoch 2: 2 +24"})
}

// P9.2: promoting the node that is on its way.
func TestPromote(t *testing.T) {
	l := []api.Conf{joined(of(0, 3, 2), 5), fresh(of(1, 9, 4, 24)), joined(of(2, 7, 10, 11, 12, 13, 14), 15), joined(of(3, 6, 16, 17, 18, 19), 1)}
	for _, x := range []try{
		{cmd(api.Promote, 0, 3, 5), api.OK, "chain 0 epoch 4: 2 5*"},
		{cmd(api.Promote, 0, 3, 2), api.ErrNone, ""},
		{cmd(api.Promote, 0, 3, 1), api.ErrNone, ""},
		{cmd(api.Promote, 0, 2, 5), api.ErrEpoch, ""},
		{cmd(api.Promote, 1, 9, 24), api.ErrNone, ""},
		{cmd(api.Promote, 1, 9, 5), api.ErrNone, ""},
		{cmd(api.Promote, 2, 7, 15), api.ErrFull, ""},
		{cmd(api.Promote, 2, 7, 14), api.ErrNone, ""},
		{cmd(api.Promote, 3, 6, 1), api.OK, "chain 3 epoch 7: 16 17 18 19 1*"},
	} {
		wantTry(t, l, x)
	}
}

// P9.2: settling the last node.
func TestSettle(t *testing.T) {
	l := []api.Conf{joined(of(0, 3, 2), 5), fresh(of(1, 9, 4, 24)), fresh(of(2, 7, 10, 11, 12, 13, 14)), of(3, 6, 15, 16)}
	for _, x := range []try{
		{cmd(api.Settle, 0, 3, 5), api.ErrNone, ""},
		{cmd(api.Settle, 0, 3, 2), api.ErrNone, ""},
		{cmd(api.Settle, 1, 9, 24), api.OK, "chain 1 epoch 10: 4 24"},
		{cmd(api.Settle, 1, 9, 4), api.ErrNone, ""},
		{cmd(api.Settle, 1, 9, 1), api.ErrNone, ""},
		{cmd(api.Settle, 1, 10, 24), api.ErrEpoch, ""},
		{cmd(api.Settle, 2, 7, 14), api.OK, "chain 2 epoch 8: 10 11 12 13 14"},
		{cmd(api.Settle, 2, 7, 13), api.ErrNone, ""},
		{cmd(api.Settle, 3, 6, 16), api.ErrNone, ""},
	} {
		wantTry(t, l, x)
	}
}

// P9.2: a Noop is always possible, and has no effect.
func TestNoop(t *testing.T) {
	for _, l := range [][]api.Conf{{of(0, 1, 1)}, {joined(of(0, math.MaxUint64, 2), 5), fresh(of(1, 9, 4, 24))}} {
		wantTry(t, l, try{c: api.Cmd{}})
	}
}

// P9.2: the errors in their order: of the list, of the command, of the chain, of the epoch, of the kind, and at the last epoch.
func TestCanErrorsInOrder(t *testing.T) {
	bad := cmd(5, 9, 0, 99)
	form := cmd(api.Remove, 1, 0, 1)
	two := []api.Conf{of(0, 4, 1, 2), of(1, 1, 3, 4)}
	for _, c := range []api.Cmd{{}, bad, form, cmd(api.Append, 0, 4, 9), cmd(api.Remove, 0, 4, 1)} {
		for _, l := range [][]api.Conf{nil, {of(0, 4, 1, 2), of(1, 1, 2)}, {of(1, 1, 1)}, {of(0, 0, 1)}, {of(0, 4, 1, 2, 1)}} {
			wantTry(t, l, try{c, api.ErrArg, ""})
		}
	}
	wantTry(t, two, try{bad, api.ErrArg, ""})
	wantTry(t, two, try{cmd(-1, 0, 4, 1), api.ErrArg, ""})
	wantTry(t, two, try{form, api.ErrForm, ""})
	wantTry(t, two, try{cmd(api.Noop, 0, 4, 1), api.ErrForm, ""})
	wantTry(t, two, try{cmd(api.Remove, 4, 4, 1), api.ErrForm, ""})
	wantTry(t, two, try{cmd(api.Remove, -1, 4, 1), api.ErrForm, ""})
	wantTry(t, two, try{cmd(api.Remove, 0, 4, 25), api.ErrForm, ""})
	wantTry(t, two, try{cmd(api.Promote, 0, 4, 0), api.ErrForm, ""})
	for kind := api.Remove; kind <= api.Settle; kind++ {
		wantTry(t, two, try{cmd(kind, 2, 9, 1), api.ErrNone, ""})
		wantTry(t, two, try{cmd(kind, 3, 1, 20), api.ErrNone, ""})
		wantTry(t, two, try{cmd(kind, 0, 5, 1), api.ErrEpoch, ""})
		wantTry(t, two, try{cmd(kind, 0, 1, 20), api.ErrEpoch, ""})
		wantTry(t, two, try{cmd(kind, 1, 4, 3), api.ErrEpoch, ""})
	}
}

// P9.2: at the greatest epoch nothing but a Noop is possible, and what is wrong otherwise is said first.
func TestLastEpoch(t *testing.T) {
	const last = math.MaxUint64
	l := []api.Conf{joined(of(0, last, 2, 3), 5), fresh(of(1, last, 4, 24)), of(2, last, 10, 11), of(3, last-1, 12, 13)}
	for _, x := range []try{
		{cmd(api.Remove, 0, last, 2), api.ErrFull, ""},
		{cmd(api.Remove, 0, last, 5), api.ErrFull, ""},
		{cmd(api.Remove, 0, last, 9), api.ErrNone, ""},
		{cmd(api.Remove, 0, last-1, 2), api.ErrEpoch, ""},
		{cmd(api.Remove, 1, last, 4), api.ErrState, ""},
		{cmd(api.Promote, 0, last, 5), api.ErrFull, ""},
		{cmd(api.Promote, 0, last, 3), api.ErrNone, ""},
		{cmd(api.Settle, 1, last, 24), api.ErrFull, ""},
		{cmd(api.Settle, 1, last, 4), api.ErrNone, ""},
		{cmd(api.Append, 2, last, 1), api.ErrFull, ""},
		{cmd(api.Append, 2, last, 10), api.ErrThere, ""},
		{cmd(api.Append, 1, last, 1), api.ErrState, ""},
		{cmd(api.Append, 3, last-1, 1), api.OK, "chain 3 epoch 18446744073709551615: 12 13 +1"},
	} {
		wantTry(t, l, x)
	}
}

// P9.3: the beginning.
func TestBegin(t *testing.T) {
	for chains := -1; chains <= 6; chains++ {
		for per := -1; per <= 7; per++ {
			l, e := conf.Begin(chains, per)
			if chains < 1 || chains > 4 || per < 1 || per > 5 {
				if e != api.ErrArg || len(l) != 0 {
					t.Error(chains, per, "is", l, int(e))
				}
				continue
			}
			if e != api.OK || len(l) != chains || !conf.All(l) {
				t.Error(chains, per, "is", l, int(e))
			}
			next := 1
			for chain, c := range l {
				want := of(chain, 1)
				for range per {
					want.Nodes = append(want.Nodes, next)
					next++
				}
				if !sameLists([]api.Conf{c}, []api.Conf{want}) {
					t.Error(chains, per, "has", c, "want", want)
				}
			}
		}
	}
	for _, n := range []int{math.MinInt, math.MaxInt, 1 << 32, 1<<32 + 1, 1 << 62} {
		for _, with := range []int{1, n} {
			if l, e := conf.Begin(n, with); len(l) != 0 || e != api.ErrArg {
				t.Error(n, with, "is", l, int(e))
			}
			if l, e := conf.Begin(with, n); len(l) != 0 || e != api.ErrArg {
				t.Error(with, n, "is", l, int(e))
			}
		}
	}
}

// P9.3: no two of the nodes' lists share memory.
func TestBeginGivesNewMemory(t *testing.T) {
	l, _ := conf.Begin(4, 5)
	l[0].Nodes = append(l[0].Nodes, 99)
	for at := range l[1].Nodes {
		l[1].Nodes[at] = 98
	}
	if l[1].Nodes[0] != 98 || l[0].Nodes[4] != 5 || l[2].Nodes[0] != 11 {
		t.Error(l)
	}
	if m, _ := conf.Begin(4, 5); m[1].Nodes[0] != 6 {
		t.Error(m)
	}
}

// P9.4: the bytes come behind what was put before; what is not valid puts nothing, and harms nothing.
func TestPut(t *testing.T) {
	o := fix.New(1000)
	o.Put(7, 2)
	want := []byte{0, 7}
	for _, s := range samples() {
		was := again([]api.Conf{s.c})
		if e := conf.Put(o, s.c); e != api.OK || !sameLists([]api.Conf{s.c}, was) {
			t.Error(s.c, "is", int(e))
		}
		want = append(want, s.bytes...)
		for _, c := range wrongs() {
			if e := conf.Put(o, c); e != api.ErrForm {
				t.Error(c, "is", int(e))
			}
		}
		if b, e := o.Done(); !slices.Equal(b, want) || e != api.OK {
			t.Error("behind", s.c, "there is", b, int(e))
		}
	}
}

// P9.4: an Out that is nil, full or wrong keeps its error, and Put says only whether the configuration is valid.
func TestPutWhereNothingCanBePut(t *testing.T) {
	s := samples()[2]
	if e := conf.Put(nil, s.c); e != api.OK {
		t.Error("into nil", int(e))
	}
	if e := conf.Put(nil, api.Conf{}); e != api.ErrForm {
		t.Error("a wrong one into nil", int(e))
	}
	for most := range len(s.bytes) {
		o := fix.New(most)
		if e := conf.Put(o, s.c); e != api.OK {
			t.Error("among", most, int(e))
		}
		if b, e := o.Done(); len(b) != 0 || e != api.ErrLong {
			t.Error("among", most, "there is", b, int(e))
		}
	}
}

// P9.4: configurations are read one after the other, and what follows them remains.
func TestGet(t *testing.T) {
	var b []byte
	for _, s := range samples() {
		b = append(b, s.bytes...)
	}
	i := fix.Of(append(b, 9))
	for _, s := range samples() {
		if c, e := conf.Get(i); !sameLists([]api.Conf{c}, []api.Conf{s.c}) || e != api.OK {
			t.Error(c, int(e), "want", s.c)
		}
	}
	if i.Left() != 1 || i.Get(1) != 9 || i.Err() != api.OK {
		t.Error("what follows")
	}
}

// P9.4: the error of the In is first: ErrNil, ErrShort, an earlier one, or ErrForm of a bool.
func TestGetErrors(t *testing.T) {
	wantGet := func(name string, i *fix.In, want api.Errno) {
		t.Helper()
		if c, e := conf.Get(i); !sameLists([]api.Conf{c}, []api.Conf{{}}) || e != want {
			t.Error(name, "is", c, int(e), "want", int(want))
		}
	}
	wantGet("nil", nil, api.ErrNil)
	for _, s := range samples() {
		for n := range len(s.bytes) {
			wantGet("too few", fix.Of(s.bytes[:n]), api.ErrShort)
		}
	}
	wrong := []byte{9, 0, 0, 0, 0, 0, 0, 0, 0, 0, 99, 2, 1, 1}
	for n := range len(wrong) {
		wantGet("too few of wrong ones", fix.Of(wrong[:n]), api.ErrShort)
	}
	wantGet("wrong ones", fix.Of(wrong), api.ErrForm)
	many := append([]byte{1, 0, 0, 0, 0, 0, 0, 0, 7, 0, 0, 255}, make([]byte, 255)...)
	for n := range len(many) {
		wantGet("too few of too many nodes", fix.Of(many[:n]), api.ErrShort)
	}
	for _, b := range []byte{2, 3, 128, 255} {
		l := slices.Clone(samples()[2].bytes)
		l[9] = b
		for n := 10; n <= len(l); n++ {
			wantGet("no bool", fix.Of(l[:n]), api.ErrForm)
		}
	}
	i := fix.Of(samples()[0].bytes)
	i.Get(0)
	wantGet("behind an error", i, api.ErrArg)
}

// P9.4: bytes of what is no valid configuration; they are read, too, and reading may go on.
func TestGetOfWrongBytes(t *testing.T) {
	ahead := []byte{1, 0, 0, 0, 0, 0, 0, 0, 7}
	for _, b := range [][]byte{
		{4, 0, 0, 0, 0, 0, 0, 0, 7, 0, 0, 1, 1}, {255, 0, 0, 0, 0, 0, 0, 0, 7, 0, 0, 1, 1}, {1, 0, 0, 0, 0, 0, 0, 0, 0, 0, 0, 1, 1},
		append(slices.Clone(ahead), 0, 0, 0), append(slices.Clone(ahead), 0, 3, 0), append(slices.Clone(ahead), 1, 0, 0), append(slices.Clone(ahead), 1, 0, 1, 1), append(slices.Clone(ahead), 1, 3, 2, 1, 2),
		append(slices.Clone(ahead), 0, 2, 2, 1, 2), append(slices.Clone(ahead), 0, 25, 2, 1, 2), append(slices.Clone(ahead), 0, 255, 2, 1, 2),
		append(slices.Clone(ahead), 0, 0, 2, 1, 1), append(slices.Clone(ahead), 0, 0, 2, 0, 1), append(slices.Clone(ahead), 0, 0, 2, 1, 25), append(slices.Clone(ahead), 0, 0, 6, 1, 2, 3, 4, 5, 6),
		append(append(slices.Clone(ahead), 0, 0, 255), make([]byte, 255)...),
	} {
		for _, more := range [][]byte{nil, {1}, make([]byte, 20)} {
			i := fix.Of(append(slices.Clone(b), more...))
			if c, e := conf.Get(i); !sameLists([]api.Conf{c}, []api.Conf{{}}) || e != api.ErrForm {
				t.Error(b, "is", c, int(e))
			}
			if i.Left() != len(more) || i.Err() != api.OK {
				t.Error("behind", b, "there are", i.Left(), int(i.Err()))
			}
		}
	}
}

// P9.4: whatever bytes are read as a configuration are its bytes.
func TestReadHasNoOtherBytes(t *testing.T) {
	random := rand.New(rand.NewSource(94))
	read := 0
	for range 50000 {
		b := slices.Clone(samples()[random.Intn(8)].bytes)
		for range random.Intn(3) {
			b[random.Intn(len(b))] = byte(random.Intn(28))
		}
		i := fix.Of(b)
		c, e := conf.Get(i)
		if e != api.OK {
			if !sameLists([]api.Conf{c}, []api.Conf{{}}) {
				t.Fatal(b, "is", c, int(e))
			}
			continue
		}
		read++
		o := fix.New(100)
		conf.Put(o, c)
		if back, _ := o.Done(); !slices.Equal(back, b[:len(b)-i.Left()]) {
			t.Fatal(b, "is", c, "which is", back)
		}
	}
	if read < 5000 {
		t.Error("read", read)
	}
}

// P9.4: the text of a configuration; the document's example is the second one.
func TestText(t *testing.T) {
	for _, s := range samples() {
		if got := conf.Text(s.c); got != s.text {
			t.Errorf("%v is %q", s.c, got)
		}
	}
	for _, c := range wrongs() {
		if got := conf.Text(c); got != "" {
			t.Errorf("%v is %q", c, got)
		}
	}
}

// P9.2: the document's example.
func TestExample(t *testing.T) {
	l := []api.Conf{of(0, 1, 1, 2)}
	l, first := conf.Do(l, cmd(api.Remove, 0, 1, 1))
	l, second := conf.Do(l, cmd(api.Append, 0, 2, 5))
	if !first || !second || conf.Text(l[0]) != "chain 0 epoch 3: 2 +5" {
		t.Error(l, first, second)
	}
}

// isPossible says by the words of the definition whether a valid command that is no Noop is possible.
func isPossible(l []api.Conf, c api.Cmd) bool {
	if c.Chain >= len(l) || l[c.Chain].Epoch != c.Epoch {
		return false
	}
	now := l[c.Chain]
	last := now.Nodes[len(now.Nodes)-1]
	switch c.Kind {
	case api.Remove:
		in := now.Join == c.Node
		others := 0
		for at, node := range now.Nodes {
			in = in || node == c.Node
			if node != c.Node && !(now.Fresh && at == len(now.Nodes)-1) {
				others++
			}
		}
		return in && others > 0
	case api.Append:
		for _, x := range l {
			if slices.Contains(x.Nodes, c.Node) || x.Join == c.Node {
				return false
			}
		}
		return now.Join == 0 && !now.Fresh && len(now.Nodes) < 5
	case api.Promote:
		return now.Join == c.Node && len(now.Nodes) < 5
	}
	return now.Fresh && last == c.Node
}

// P9.5: whatever is executed, configurations remain valid, epochs increase by one, a settled node remains settled, and nodes keep their order.
func TestConfigurationsRemainRight(t *testing.T) {
	random := rand.New(rand.NewSource(95))
	executed := [5]int{}
	for range 300 {
		l, _ := conf.Begin(1+random.Intn(4), 1+random.Intn(5))
		for range 400 {
			chain := random.Intn(len(l))
			c := cmd(1+random.Intn(4), chain, l[chain].Epoch, 1+random.Intn(24))
			switch random.Intn(20) {
			case 0:
				c.Epoch += uint64(random.Intn(3)) - 1
			case 1:
				c.Chain = random.Intn(4)
			case 2, 3, 4, 5, 6:
				c.Node = max(l[chain].Join, 1)
			case 7, 8, 9, 10:
				c.Node = l[chain].Nodes[len(l[chain].Nodes)-1]
			}
			if cmds.Check(c) != api.OK {
				continue
			}
			was := again(l)
			made, done := conf.Do(l, c)
			if done != isPossible(l, c) || done != (conf.Can(l, c) == api.OK) || !sameLists(l, was) {
				t.Fatal(c, "for", was, "is executed:", done)
			}
			if !done && !sameLists(made, was) {
				t.Fatal(c, "for", was, "leads to", made)
			}
			if done {
				executed[c.Kind]++
				wantStep(t, was, made, c)
			}
			l = made
		}
	}
	for kind, n := range executed[1:] {
		if n < 1000 {
			t.Error("of the kind", kind+1, "were executed", n)
		}
	}
}

func wantStep(t *testing.T, was, made []api.Conf, c api.Cmd) {
	t.Helper()
	if !conf.All(made) || len(made) != len(was) {
		t.Fatal(c, "for", was, "leads to", made)
	}
	for i := range was {
		a, b := was[i], made[i]
		if i != c.Chain {
			if !sameLists(was[i:i+1], made[i:i+1]) {
				t.Fatal(c, "changes", a, "to", b)
			}
			continue
		}
		stays := func(node int) bool { return slices.Contains(conf.Settled(b), node) }
		if b.Epoch != a.Epoch+1 || !slices.ContainsFunc(conf.Settled(a), stays) {
			t.Fatal(c, "makes", b, "of", a)
		}
		in := func(other api.Conf) func(int) bool {
			return func(node int) bool { return !slices.Contains(other.Nodes, node) }
		}
		stayed := slices.DeleteFunc(slices.Clone(a.Nodes), in(b))
		same := slices.DeleteFunc(slices.Clone(b.Nodes), in(a))
		if !slices.Equal(stayed, same) {
			t.Fatal(c, "makes", b, "of", a)
		}
	}
}
