package atlas_test

import (
	"math"
	"math/rand"
	"slices"
	"testing"

	"catenary/api"
	"catenary/atlas"
	"catenary/conf"
)

// begun returns configurations of so many chains, of two nodes each: 1 and 2, 3 and 4, and so on.
func begun(t *testing.T, chains int) []api.Conf {
	t.Helper()
	l, e := conf.Begin(chains, 2)
	if e != api.OK {
		t.Fatal(chains, int(e))
	}
	return l
}

func made(t *testing.T, l []api.Conf) *atlas.Atlas {
	t.Helper()
	a, e := atlas.New(l)
	if a == nil || e != api.OK {
		t.Fatal(l, int(e))
	}
	return a
}

// holds holds an atlas to these configurations.
func holds(t *testing.T, a *atlas.Atlas, want ...api.Conf) {
	t.Helper()
	if l := a.Confs(); !slices.EqualFunc(l, want, conf.Same) || a.Chains() != len(want) {
		t.Error(a.Chains(), l, "not", want)
	}
}

// chainOf computes a chain as the chapter defines it, in numbers that don't wrap round.
func chainOf(key uint32, chains int) int {
	product := uint64(key) * 2654435761
	return int(product % (1 << 32) / 65536 % uint64(chains))
}

// P25.1: the chain of a key, for a few keys that were computed by hand.
func TestChain(t *testing.T) {
	for _, c := range []struct {
		key    uint32
		chains int
		want   int
	}{
		{1, 2, 1}, // 40503
		{1, 1, 0},
		{1, 3, 0},
		{1, 4, 3},
		{1, 65536, 40503},
		{1, math.MaxInt, 40503},
		{0, 2, 0},
		{0, 4, 0},
		{2, 65536, 15470}, // 5308871522 - 4294967296 is 1013904226
		{2, 2, 0},
		{2, 3, 2},
		{2, 4, 2},
		{3, 65536, 55974}, // 7963307283 - 4294967296 is 3668339987
		{3, 2, 0},
		{3, 4, 2},
		{1000, 65536, 2227}, // 2654435761000, less 618 times 4294967296, is 145972072
		{1000, 2, 1},
		{1000, 4, 3},
		{math.MaxUint32, 65536, 25032}, // 1640531535
		{math.MaxUint32, 4, 0},
		{math.MaxUint32, 3, 0},
	} {
		if got := atlas.Chain(c.key, c.chains); got != c.want {
			t.Error(c.key, "of", c.chains, "is", got, "not", c.want)
		}
	}
}

// P25.1: fewer than one chain: 0.
func TestChainOfNone(t *testing.T) {
	for _, chains := range []int{0, -1, -2, -65536, math.MinInt} {
		for _, key := range []uint32{0, 1, 2, 77, math.MaxUint32} {
			if got := atlas.Chain(key, chains); got != 0 {
				t.Error(key, chains, got)
			}
		}
	}
}

// P25.1, P25.3: each key belongs to one of the chains, the one of the definition.
func TestChainOfMany(t *testing.T) {
	random := rand.New(rand.NewSource(251))
	for at := range 20000 {
		key := uint32(at)
		if at >= 5000 {
			key = random.Uint32()
		}
		for _, chains := range []int{1, 2, 3, 4, 5, 7, 16, 1000, 65535, 65536, 65537, 1 << 20} {
			got := atlas.Chain(key, chains)
			if got != chainOf(key, chains) || got < 0 || got >= chains {
				t.Fatal(key, chains, got)
			}
		}
	}
}

// P25.1: an atlas has the configurations with which it is made, of one to four chains.
func TestNew(t *testing.T) {
	for chains := 1; chains <= api.MaxChains; chains++ {
		l := begun(t, chains)
		holds(t, made(t, l), l...)
	}
	l := []api.Conf{{Chain: 0, Epoch: 9, Nodes: []int{7, 3}, Fresh: true}, {Chain: 1, Epoch: math.MaxUint64, Nodes: []int{24}, Join: 1}}
	holds(t, made(t, l), l...)
}

// P25.1: lists that are not valid.
func TestNewWrong(t *testing.T) {
	two := begun(t, 2)
	for what, l := range map[string][]api.Conf{
		"none":                {},
		"one that is zero":    {{}},
		"too many":            append(begun(t, 4), api.Conf{Chain: 4, Epoch: 1, Nodes: []int{9}}),
		"not the chain 0":     {{Chain: 1, Epoch: 1, Nodes: []int{1}}},
		"in another order":    {two[1], two[0]},
		"twice":               {two[0], two[0]},
		"without an epoch":    {{Chain: 0, Nodes: []int{1}}},
		"without nodes":       {two[0], {Chain: 1, Epoch: 1}},
		"a node twice":        {{Chain: 0, Epoch: 1, Nodes: []int{1, 1}}},
		"a node of two":       {two[0], {Chain: 1, Epoch: 1, Nodes: []int{2}}},
		"a join of two":       {two[0], {Chain: 1, Epoch: 1, Nodes: []int{3}, Join: 1}},
		"no such node":        {{Chain: 0, Epoch: 1, Nodes: []int{25}}},
		"fresh all alone":     {{Chain: 0, Epoch: 1, Nodes: []int{1}, Fresh: true}},
		"fresh with a join":   {{Chain: 0, Epoch: 1, Nodes: []int{1, 2}, Fresh: true, Join: 3}},
		"a chain below zero":  {{Chain: -1, Epoch: 1, Nodes: []int{1}}},
		"too many in a chain": {{Chain: 0, Epoch: 1, Nodes: []int{1, 2, 3, 4, 5, 6}}},
	} {
		if a, e := atlas.New(l); a != nil || e != api.ErrArg {
			t.Error(what, a, int(e))
		}
	}
	if a, e := atlas.New(nil); a != nil || e != api.ErrArg {
		t.Error("nil", a, int(e))
	}
}

// P25.1: a newer configuration becomes that of its chain, and of no other one.
func TestLearn(t *testing.T) {
	l := begun(t, 2)
	a := made(t, l)
	next := api.Conf{Chain: 1, Epoch: 2, Nodes: []int{4}, Join: 9}
	if !a.Learn(next) {
		t.Error("not learned")
	}
	holds(t, a, l[0], next)
	if a.Learn(next) {
		t.Error("learned twice")
	}
	much := api.Conf{Chain: 1, Epoch: math.MaxUint64, Nodes: []int{4, 9}, Fresh: true}
	if !a.Learn(much) { // epochs in between may be missing
		t.Error("not learned")
	}
	holds(t, a, l[0], much)
	other := api.Conf{Chain: 0, Epoch: 2, Nodes: []int{2}}
	if !a.Learn(other) {
		t.Error("not learned")
	}
	holds(t, a, other, much)
}

// P25.1: what is not newer, or of no chain that there is, or not valid, changes nothing.
func TestLearnNothing(t *testing.T) {
	l := []api.Conf{{Chain: 0, Epoch: 5, Nodes: []int{1, 2}}, {Chain: 1, Epoch: 3, Nodes: []int{3, 4}}}
	a := made(t, l)
	for _, c := range []api.Conf{
		{},
		l[0],
		{Chain: 0, Epoch: 5, Nodes: []int{2}},
		{Chain: 0, Epoch: 4, Nodes: []int{2}},
		{Chain: 0, Epoch: 0, Nodes: []int{2}},
		{Chain: 1, Epoch: 3, Nodes: []int{3}},
		{Chain: 2, Epoch: 9, Nodes: []int{5}},
		{Chain: 3, Epoch: 9, Nodes: []int{5}},
		{Chain: 4, Epoch: 9, Nodes: []int{5}},
		{Chain: -1, Epoch: 9, Nodes: []int{5}},
		{Chain: math.MaxInt, Epoch: 9, Nodes: []int{5}},
		{Chain: math.MinInt, Epoch: 9, Nodes: []int{5}},
		{Chain: 0, Epoch: 9},
		{Chain: 0, Epoch: 9, Nodes: []int{0}},
		{Chain: 0, Epoch: 9, Nodes: []int{2, 2}},
		{Chain: 0, Epoch: 9, Nodes: []int{2}, Fresh: true},
		{Chain: 0, Epoch: 9, Nodes: []int{2}, Join: 25},
	} {
		if a.Learn(c) {
			t.Error("learned", c)
		}
		holds(t, a, l...)
	}
}

// P25.1: it is held against the configuration of its own chain alone, whatever others have.
func TestLearnByChains(t *testing.T) {
	l := []api.Conf{{Chain: 0, Epoch: 50, Nodes: []int{1, 2}}, {Chain: 1, Epoch: 3, Nodes: []int{3, 4}}}
	a := made(t, l)
	c := api.Conf{Chain: 1, Epoch: 4, Nodes: []int{1}} // also with nodes of another chain, as its configuration may be an old one
	if !a.Learn(c) || a.Learn(api.Conf{Chain: 0, Epoch: 50, Nodes: []int{1}}) {
		t.Error(a.Confs())
	}
	holds(t, a, l[0], c)
}

// P25.1: a key's configuration, its head and its readers are those of its chain.
func TestOfHeadReader(t *testing.T) {
	zero := api.Conf{Chain: 0, Epoch: 4, Nodes: []int{7, 2, 9}, Fresh: true}
	one := api.Conf{Chain: 1, Epoch: 6, Nodes: []int{5, 3}, Join: 11}
	a := made(t, []api.Conf{zero, one})
	for _, c := range []struct {
		key     uint32
		conf    api.Conf
		head    int
		readers []int // by the picks from -1 on
	}{
		{0, zero, 7, []int{7, 7, 2, 9, 7, 2, 9, 7}},
		{3, zero, 7, []int{7, 7, 2, 9, 7, 2, 9, 7}},
		{1, one, 5, []int{5, 5, 3, 5, 3, 5, 3, 5}},
		{4, one, 5, []int{5, 5, 3, 5, 3, 5, 3, 5}},
		{1000, one, 5, []int{5, 5, 3, 5, 3, 5, 3, 5}},
		{math.MaxUint32, zero, 7, []int{7, 7, 2, 9, 7, 2, 9, 7}},
	} {
		if got := a.Of(c.key); !conf.Same(got, c.conf) {
			t.Error(c.key, "is in", got)
		}
		if got := a.Head(c.key); got != c.head {
			t.Error("the head of", c.key, "is", got)
		}
		for at, want := range c.readers {
			if got := a.Reader(c.key, at-1); got != want {
				t.Error("the reader", at-1, "of", c.key, "is", got, "not", want)
			}
		}
		if low := a.Reader(c.key, math.MinInt); low != c.head {
			t.Error("the reader of the least pick is", low)
		}
		if high := a.Reader(c.key, math.MaxInt); high != c.conf.Nodes[math.MaxInt%len(c.conf.Nodes)] {
			t.Error("the reader of the greatest pick is", high)
		}
	}
}

// P25.1: they are those of what was learned last.
func TestOfHeadReaderAfterLearn(t *testing.T) {
	a := made(t, begun(t, 2))
	next := api.Conf{Chain: 1, Epoch: 3, Nodes: []int{4, 8}, Fresh: true}
	a.Learn(next)
	if got := a.Of(1); !conf.Same(got, next) || a.Head(1) != 4 || a.Reader(1, 0) != 4 || a.Reader(1, 1) != 8 {
		t.Error(got, a.Head(1), a.Reader(1, 0), a.Reader(1, 1))
	}
	if got := a.Of(0); got.Epoch != 1 || a.Head(0) != 1 || a.Reader(0, 1) != 2 {
		t.Error(got, a.Head(0), a.Reader(0, 1))
	}
}

// P25.2: the keys below 256 of a chain, in increasing order; together those of all chains are all of these.
func TestLow(t *testing.T) {
	for chains := 1; chains <= api.MaxChains; chains++ {
		a := made(t, begun(t, chains))
		want := make([][]int, chains)
		for key := range 256 {
			chain := chainOf(uint32(key), chains)
			want[chain] = append(want[chain], key)
		}
		for chain := range chains {
			if l := a.Low(chain); !slices.Equal(l, want[chain]) {
				t.Error(chain, "of", chains, "has", l)
			}
		}
	}
	if l := made(t, begun(t, 2)).Low(1); !slices.Equal(l[:4], []int{1, 4, 5, 8}) {
		t.Error(l)
	}
}

// P25.2: a chain that there is not has no keys, and computes none; the first chain that there is computes those of all, once.
func TestTables(t *testing.T) {
	a := made(t, begun(t, 2))
	missing := func(tables int) {
		t.Helper()
		for _, chain := range []int{-1, 2, 3, 4, 255, math.MaxInt, math.MinInt} {
			if l := a.Low(chain); len(l) != 0 {
				t.Error(chain, l)
			}
		}
		if n := a.Tables(); n != tables {
			t.Error("computed", n)
		}
	}
	missing(0)
	a.Learn(api.Conf{Chain: 0, Epoch: 2, Nodes: []int{2}})
	a.Of(1)
	missing(0)
	first := a.Low(1)
	missing(1)
	a.Low(0)
	a.Low(1)
	missing(1)
	a.Learn(api.Conf{Chain: 1, Epoch: 2, Nodes: []int{3}})
	if !slices.Equal(a.Low(1), first) {
		t.Error("other keys:", a.Low(1))
	}
	missing(1)
	if other := made(t, begun(t, 2)); other.Tables() != 0 {
		t.Error("another atlas has them, too")
	}
}

// P25.1, P25.2: a nil atlas.
func TestNil(t *testing.T) {
	var a *atlas.Atlas
	if a.Learn(begun(t, 1)[0]) || a.Learn(api.Conf{}) {
		t.Error("learns")
	}
	for _, key := range []uint32{0, 1, math.MaxUint32} {
		if c := a.Of(key); !conf.Same(c, api.Conf{}) || a.Head(key) != 0 || a.Reader(key, 0) != 0 || a.Reader(key, 3) != 0 || a.Reader(key, -1) != 0 {
			t.Error(key, c)
		}
	}
	if a.Chains() != 0 || len(a.Confs()) != 0 || len(a.Low(0)) != 0 || len(a.Low(-1)) != 0 || a.Tables() != 0 {
		t.Error("has something")
	}
}

// Rule 5: nothing that was passed is kept, and nothing that was returned is the atlas's own.
func TestNewMemory(t *testing.T) {
	l := begun(t, 2)
	a := made(t, l)
	l[0].Nodes[0], l[1] = 20, api.Conf{}
	want := begun(t, 2)
	holds(t, a, want...)

	next := api.Conf{Chain: 1, Epoch: 2, Nodes: []int{4, 9}}
	a.Learn(next)
	next.Nodes[0] = 20
	want[1] = api.Conf{Chain: 1, Epoch: 2, Nodes: []int{4, 9}}
	holds(t, a, want...)

	one := a.Of(1)
	one.Nodes[0] = 20
	_ = append(one.Nodes[:1], 21)
	holds(t, a, want...)

	all := a.Confs()
	all[1].Nodes[0], all[0] = 20, api.Conf{}
	_ = append(all[1].Nodes[:1], 21)
	holds(t, a, want...)

	keys := a.Low(0)
	kept := slices.Clone(keys)
	clear(keys)
	_ = append(keys, make([]int, 300)...)
	if !slices.Equal(a.Low(0), kept) {
		t.Error("the keys are others:", a.Low(0))
	}
}

// P25.3: whatever is learned, epochs never decrease, each chain has the configuration with the greatest one, and each key one of the chains.
func TestTheorem(t *testing.T) {
	random := rand.New(rand.NewSource(253))
	learned := 0
	for range 300 {
		chains := 1 + random.Intn(api.MaxChains)
		model := begun(t, chains)
		a := made(t, model)
		for range 100 {
			c := api.Conf{Chain: random.Intn(api.MaxChains+2) - 1, Epoch: uint64(random.Intn(30)), Nodes: random.Perm(api.MaxNodes)[:1+random.Intn(6)]}
			right := c.Chain >= 0 && c.Chain < chains && c.Epoch > model[max(min(c.Chain, chains-1), 0)].Epoch && len(c.Nodes) <= api.MaxChain && !slices.Contains(c.Nodes, 0)
			if right {
				model[c.Chain] = c
				learned++
			}
			if a.Learn(c) != right {
				t.Fatal(model, "learns", c, !right)
			}
			holds(t, a, model...)
			key := random.Uint32()
			if of := a.Of(key); !conf.Same(of, model[chainOf(key, chains)]) || a.Head(key) != of.Nodes[0] {
				t.Fatal(key, of, a.Head(key), model)
			}
		}
	}
	if learned < 1000 {
		t.Error("hardly anything was learned:", learned)
	}
}
