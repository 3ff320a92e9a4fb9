package chosen_test

import (
	"math"
	"math/rand"
	"slices"
	"strings"
	"testing"

	"catenary/api"
	"catenary/chosen"
	"catenary/conf"
)

// noSlots are numbers that no slot has.
var noSlots = []int{-1, -2, math.MinInt, math.MinInt + 1, 512, 513, 1 << 16, 1 << 32, 1<<32 + 1, math.MaxInt}

func of(chain int, epoch uint64, nodes ...int) api.Conf {
	return api.Conf{Chain: chain, Epoch: epoch, Nodes: nodes}
}

// begun returns what two chains of two nodes begin with.
func begun() []api.Conf {
	return []api.Conf{of(0, 1, 1, 2), of(1, 1, 3, 4)}
}

func cmd(kind, chain int, epoch uint64, node int) api.Cmd {
	return api.Cmd{Kind: kind, Chain: chain, Epoch: epoch, Node: node}
}

// step is a command for a slot, and the texts of the configurations that result when it is learned behind all those ahead of it.
type step struct {
	slot int
	c    api.Cmd
	want string
}

// texts are those of configurations, one a line.
func texts(l []api.Conf) string {
	lines := make([]string, len(l))
	for i, c := range l {
		lines[i] = conf.Text(c)
	}
	return strings.Join(lines, "\n")
}

func newLog(t *testing.T, l []api.Conf) *chosen.Log {
	t.Helper()
	x, e := chosen.New(l)
	if x == nil || e != api.OK {
		t.Fatal(l, "is", int(e))
	}
	return x
}

// learn learns the steps, and holds what results against theirs.
func learn(t *testing.T, x *chosen.Log, steps ...step) {
	t.Helper()
	for _, s := range steps {
		if l, e := x.Learn(s.slot, s.c); texts(l) != s.want || e != api.OK {
			t.Errorf("learn %d %v is %q, error %d; want %q", s.slot, s.c, texts(l), int(e), s.want)
		}
	}
}

// state is all that can be asked of a log.
type state struct {
	known map[int]api.Cmd
	next  int
	top   int
	gaps  []int
	done  int
	confs string
}

func mustHave(t *testing.T, x *chosen.Log, want state) {
	t.Helper()
	if x.Next() != want.next || x.Top() != want.top || x.Done() != want.done || !slices.Equal(x.Gaps(), want.gaps) {
		t.Error("next", x.Next(), "top", x.Top(), "done", x.Done(), "gaps", x.Gaps(), "want", want.next, want.top, want.done, want.gaps)
	}
	if got := texts(x.Confs()); got != want.confs {
		t.Errorf("the configurations are %q; want %q", got, want.confs)
	}
	for slot := -1; slot <= api.MaxSlots; slot++ {
		c, ok := want.known[slot]
		if got, has := x.At(slot); got != c || has != ok {
			t.Error("at", slot, "is", got, has, "want", c, ok)
		}
	}
	lines := strings.Split(want.confs, "\n")
	for chain := -1; chain <= len(lines); chain++ {
		text := ""
		if chain >= 0 && chain < len(lines) {
			text = lines[chain]
		}
		if c, ok := x.Conf(chain); conf.Text(c) != text || ok != (text != "") {
			t.Error("the configuration of", chain, "is", c, ok)
		}
	}
}

// P12.1: nothing is known; the configurations are those that it was given.
func TestNew(t *testing.T) {
	for _, l := range [][]api.Conf{
		begun(), {of(0, 1, 1)}, {of(0, math.MaxUint64, 24, 1, 5, 3, 2)},
		{{Chain: 0, Epoch: 7, Nodes: []int{2, 5}, Fresh: true}, {Chain: 1, Epoch: 3, Nodes: []int{9}, Join: 8}, of(2, 1, 1), of(3, 1, 24)},
	} {
		x := newLog(t, l)
		mustHave(t, x, state{confs: texts(l)})
	}
}

// P12.1: ErrArg of a list that is not valid.
func TestNewErrors(t *testing.T) {
	for _, l := range [][]api.Conf{
		nil, {}, {{}}, {of(1, 1, 1)}, {of(0, 0, 1)}, {of(0, 1)}, {of(0, 1, 1, 1)}, {of(0, 1, 25)}, {of(0, 1, 0)}, {of(0, 1, 1, 2, 3, 4, 5, 6)},
		{of(0, 1, 1), of(1, 1, 1)}, {of(0, 1, 1), of(2, 1, 2)}, {of(0, 1, 1), of(0, 1, 2)}, {{Epoch: 1, Nodes: []int{1}, Fresh: true}}, {{Epoch: 1, Nodes: []int{1}, Join: 1}},
		{{Epoch: 1, Nodes: []int{1, 2}, Fresh: true, Join: 3}}, {of(0, 1, 1), of(1, 1, 2), of(2, 1, 3), of(3, 1, 4), of(4, 1, 5)}, make([]api.Conf, 100),
	} {
		if x, e := chosen.New(l); x != nil || e != api.ErrArg {
			t.Error(l, "is", x, int(e))
		}
	}
}

// P12.1, P12.2: commands in the order of the slots are applied one by one.
func TestLearnInOrder(t *testing.T) {
	x := newLog(t, begun())
	known := map[int]api.Cmd{}
	confs := []string{"chain 0 epoch 1: 1 2", "chain 1 epoch 1: 3 4"}
	done := 0
	for _, s := range []step{
		{0, cmd(api.Remove, 0, 1, 1), "chain 0 epoch 2: 2"},
		{1, api.Cmd{}, ""},
		{2, cmd(api.Append, 0, 2, 5), "chain 0 epoch 3: 2 +5"},
		{3, cmd(api.Append, 0, 2, 6), ""},  // of another epoch: known, but without effect
		{4, cmd(api.Remove, 1, 1, 9), ""},  // no node of that chain
		{5, cmd(api.Append, 2, 1, 10), ""}, // no chain
		{6, cmd(api.Promote, 0, 3, 5), "chain 0 epoch 4: 2 5*"},
		{7, cmd(api.Remove, 1, 1, 3), "chain 1 epoch 2: 4"},
		{8, cmd(api.Settle, 0, 4, 5), "chain 0 epoch 5: 2 5"},
		{9, cmd(api.Settle, 0, 4, 5), ""},
		{10, cmd(api.Remove, 1, 2, 4), ""}, // the last settled one
		{11, api.Cmd{}, ""},
	} {
		learn(t, x, s)
		known[s.slot] = s.c
		if s.want != "" {
			confs[s.c.Chain] = s.want
			done++
		}
		mustHave(t, x, state{known: known, next: s.slot + 1, top: s.slot + 1, done: done, confs: strings.Join(confs, "\n")})
	}
}

// P12.1, P12.2: what is known behind a gap is not applied until the gap is filled; then all of it is, in the order of the slots.
func TestLearnBehindGaps(t *testing.T) {
	x := newLog(t, begun())
	const first = "chain 0 epoch 1: 1 2\nchain 1 epoch 1: 3 4"
	known := map[int]api.Cmd{}
	for _, s := range []struct {
		step
		state
	}{
		{step{1, cmd(api.Append, 0, 2, 5), ""}, state{next: 0, top: 2, gaps: []int{0}, confs: first}},
		{step{511, cmd(api.Remove, 1, 1, 4), ""}, state{next: 0, top: 512, gaps: upto(0, 511, 1), confs: first}},
		{step{3, cmd(api.Remove, 1, 1, 3), ""}, state{next: 0, top: 512, gaps: upto(0, 511, 1, 3), confs: first}},
		{step{5, api.Cmd{}, ""}, state{next: 0, top: 512, gaps: upto(0, 511, 1, 3, 5), confs: first}},
		{step{0, cmd(api.Remove, 0, 1, 1), "chain 0 epoch 2: 2\nchain 0 epoch 3: 2 +5"}, state{next: 2, top: 512, gaps: upto(2, 511, 3, 5), done: 2, confs: "chain 0 epoch 3: 2 +5\nchain 1 epoch 1: 3 4"}},
		{step{4, cmd(api.Promote, 0, 3, 5), ""}, state{next: 2, top: 512, gaps: upto(2, 511, 3, 4, 5), done: 2, confs: "chain 0 epoch 3: 2 +5\nchain 1 epoch 1: 3 4"}},
		{step{2, cmd(api.Settle, 0, 3, 5), "chain 1 epoch 2: 4\nchain 0 epoch 4: 2 5*"}, state{next: 6, top: 512, gaps: upto(6, 511), done: 4, confs: "chain 0 epoch 4: 2 5*\nchain 1 epoch 2: 4"}},
	} {
		learn(t, x, s.step)
		known[s.slot] = s.c
		s.known = known
		mustHave(t, x, s.state)
	}
}

// upto are the numbers from the first to below the last, but those.
func upto(first, last int, but ...int) []int {
	var l []int
	for n := first; n < last; n++ {
		if !slices.Contains(but, n) {
			l = append(l, n)
		}
	}
	return l
}

// P12.1, P12.2: the example of the chapter.
func TestExample(t *testing.T) {
	x := newLog(t, begun())
	first, second := cmd(api.Remove, 0, 1, 2), cmd(api.Remove, 1, 1, 3)
	learn(t, x, step{1, second, ""})
	if x.Next() != 0 || !slices.Equal(x.Gaps(), []int{0}) || x.Done() != 0 {
		t.Error(x.Next(), x.Gaps(), x.Done())
	}
	learn(t, x, step{0, first, "chain 0 epoch 2: 1\nchain 1 epoch 2: 4"})
	if x.Next() != 2 || len(x.Gaps()) != 0 || x.Done() != 2 {
		t.Error(x.Next(), x.Gaps(), x.Done())
	}
}

// P12.1: what is known may be learned again, and nothing results; another command is ErrThere, applied or not.
func TestLearnAgain(t *testing.T) {
	x := newLog(t, begun())
	steps := []step{{0, cmd(api.Remove, 0, 1, 1), "chain 0 epoch 2: 2"}, {1, api.Cmd{}, ""}, {3, cmd(api.Append, 0, 2, 5), ""}, {5, api.Cmd{}, ""}}
	learn(t, x, steps...)
	known := map[int]api.Cmd{}
	for _, s := range steps {
		known[s.slot] = s.c
	}
	want := state{known: known, next: 2, top: 6, gaps: []int{2, 4}, done: 1, confs: "chain 0 epoch 2: 2\nchain 1 epoch 1: 3 4"}
	for _, s := range steps {
		learn(t, x, step{s.slot, s.c, ""})
		mustHave(t, x, want)
		for _, c := range []api.Cmd{cmd(api.Remove, 0, 1, 2), cmd(api.Remove, 0, 2, 1), cmd(api.Remove, 1, 1, 1), cmd(api.Append, 0, 1, 1), cmd(api.Append, 0, 2, 6), {}} {
			if c == s.c {
				continue
			}
			if l, e := x.Learn(s.slot, c); len(l) != 0 || e != api.ErrThere {
				t.Error("learn", s.slot, c, "is", l, int(e))
			}
			mustHave(t, x, want)
		}
	}
}

// P12.1: ErrArg of a slot, then the error of Check, then ErrThere; and an error changes nothing.
func TestLearnErrors(t *testing.T) {
	x := newLog(t, begun())
	good := cmd(api.Remove, 0, 1, 1)
	learn(t, x, step{0, good, "chain 0 epoch 2: 2"}, step{2, good, ""})
	want := state{known: map[int]api.Cmd{0: good, 2: good}, next: 1, top: 3, gaps: []int{1}, done: 1, confs: "chain 0 epoch 2: 2\nchain 1 epoch 1: 3 4"}
	check := func(slot int, c api.Cmd, e api.Errno) {
		t.Helper()
		if l, got := x.Learn(slot, c); len(l) != 0 || got != e {
			t.Error("learn", slot, c, "is", l, int(got), "want", int(e))
		}
		mustHave(t, x, want)
	}
	form := api.Cmd{Node: 1}
	for _, slot := range noSlots {
		check(slot, good, api.ErrArg)
		check(slot, form, api.ErrArg)
		check(slot, api.Cmd{Kind: 5}, api.ErrArg)
	}
	for _, slot := range []int{0, 1, 2, 3, 511} {
		for _, c := range []api.Cmd{{Kind: 5}, {Kind: -1}, {Kind: 5, Chain: -1}, {Kind: math.MaxInt}} {
			check(slot, c, api.ErrArg)
		}
		for _, c := range []api.Cmd{form, {Kind: api.Remove}, {Epoch: 1}, cmd(api.Append, 4, 1, 1), cmd(api.Append, -1, 1, 1), cmd(api.Settle, 0, 0, 1), cmd(api.Promote, 0, 1, 25), cmd(api.Remove, 0, 1, 0)} {
			check(slot, c, api.ErrForm)
		}
	}
}

// P12.2: what is asked of numbers that no slot and no chain has.
func TestAskedOfNothing(t *testing.T) {
	x := newLog(t, begun())
	learn(t, x, step{0, api.Cmd{}, ""}, step{511, api.Cmd{}, ""})
	for _, slot := range noSlots {
		if c, ok := x.At(slot); c != (api.Cmd{}) || ok {
			t.Error("at", slot, "is", c, ok)
		}
	}
	for _, chain := range []int{-1, 2, 3, 4, 1 << 32, math.MinInt, math.MaxInt} {
		if c, ok := x.Conf(chain); !conf.Same(c, api.Conf{}) || ok {
			t.Error("chain", chain, "is", c, ok)
		}
	}
}

// P12.2: when all slots are known, Next is MaxSlots; found from the last slot down, so that the first one applies all.
func TestAllSlots(t *testing.T) {
	x := newLog(t, []api.Conf{of(0, 1, 1)})
	for slot := api.MaxSlots - 1; slot > 0; slot-- {
		c := cmd(api.Append, 0, uint64(slot+1), 2)
		if slot%2 == 1 {
			c.Kind = api.Remove
		}
		learn(t, x, step{slot, c, ""})
		if x.Next() != 0 || x.Top() != api.MaxSlots || !slices.Equal(x.Gaps(), upto(0, slot)) || x.Done() != 0 {
			t.Fatal(slot, x.Next(), x.Top(), x.Gaps(), x.Done())
		}
	}
	l, e := x.Learn(0, cmd(api.Append, 0, 1, 2))
	if len(l) != api.MaxSlots || e != api.OK || x.Next() != api.MaxSlots || x.Top() != api.MaxSlots || len(x.Gaps()) != 0 || x.Done() != api.MaxSlots {
		t.Fatal(len(l), int(e), x.Next(), x.Top(), x.Gaps(), x.Done())
	}
	for i, c := range l {
		join := 2 - 2*(i%2)
		if !conf.Same(c, api.Conf{Epoch: uint64(i + 2), Nodes: []int{1}, Join: join}) {
			t.Error(i, "is", c)
		}
	}
	if c, ok := x.Conf(0); !ok || conf.Text(c) != "chain 0 epoch 513: 1" {
		t.Error(c, ok)
	}
}

// P12.2: what Can says, in the order of its errors, is of the present configurations.
func TestCan(t *testing.T) {
	x := newLog(t, begun())
	learn(t, x, step{0, cmd(api.Append, 0, 1, 5), "chain 0 epoch 2: 1 2 +5"}, step{1, cmd(api.Remove, 1, 1, 3), "chain 1 epoch 2: 4"}, step{3, cmd(api.Promote, 0, 2, 5), ""})
	check := func(c api.Cmd, want api.Errno) {
		t.Helper()
		if e := x.Can(c); e != want {
			t.Error("can", c, "is", int(e), "want", int(want))
		}
	}
	check(api.Cmd{}, api.OK)
	check(api.Cmd{Kind: 5}, api.ErrArg)
	check(api.Cmd{Node: 1}, api.ErrForm)
	check(cmd(api.Promote, 0, 2, 5), api.OK)
	check(cmd(api.Remove, 0, 2, 1), api.OK)
	check(cmd(api.Remove, 0, 1, 1), api.ErrEpoch)
	check(cmd(api.Remove, 0, 3, 1), api.ErrEpoch)
	check(cmd(api.Append, 0, 2, 6), api.ErrState)
	check(cmd(api.Append, 1, 2, 5), api.ErrThere)
	check(cmd(api.Append, 1, 2, 3), api.OK)
	check(cmd(api.Remove, 1, 2, 3), api.ErrNone)
	check(cmd(api.Remove, 1, 2, 4), api.ErrState)
	check(cmd(api.Remove, 2, 2, 4), api.ErrNone)
	check(cmd(api.Settle, 0, 2, 2), api.ErrNone)
	learn(t, x, step{2, api.Cmd{}, "chain 0 epoch 3: 1 2 5*"})
	check(cmd(api.Promote, 0, 2, 5), api.ErrEpoch)
	check(cmd(api.Settle, 0, 3, 5), api.OK)
	full := newLog(t, []api.Conf{of(0, 1, 1, 2, 3, 4, 5), of(1, math.MaxUint64, 6)})
	if e := full.Can(cmd(api.Append, 0, 1, 7)); e != api.ErrFull {
		t.Error("a chain that is full", int(e))
	}
	if l, e := full.Learn(0, cmd(api.Append, 1, math.MaxUint64, 7)); len(l) != 0 || e != api.OK || full.Done() != 0 || full.Next() != 1 {
		t.Error("behind the last epoch", l, int(e), full.Done(), full.Next())
	}
}

// Rule 5: configurations are new memory: the list that was handed in, and all that was told, may be changed.
func TestConfsAreNew(t *testing.T) {
	l := begun()
	x := newLog(t, l)
	spoil := func(l []api.Conf) {
		for i := range l {
			for at := range l[i].Nodes {
				l[i].Nodes[at] = 77
			}
			extra := append(l[i].Nodes, 78, 79)
			l[i] = api.Conf{Chain: 9, Nodes: extra}
		}
	}
	spoil(l)
	learn(t, x, step{1, cmd(api.Append, 0, 2, 6), ""}, step{2, cmd(api.Promote, 0, 3, 6), ""}, step{3, cmd(api.Settle, 0, 4, 6), ""})
	resulted, e := x.Learn(0, cmd(api.Remove, 0, 1, 1))
	want := "chain 0 epoch 2: 2\nchain 0 epoch 3: 2 +6\nchain 0 epoch 4: 2 6*\nchain 0 epoch 5: 2 6"
	if texts(resulted) != want || e != api.OK {
		t.Error(resulted, int(e))
	}
	for i := range resulted {
		was := texts(resulted[i+1:])
		spoil(resulted[i : i+1])
		if texts(resulted[i+1:]) != was {
			t.Error("two configurations of a result share memory", resulted)
		}
	}
	const now = "chain 0 epoch 5: 2 6\nchain 1 epoch 1: 3 4"
	if got := texts(x.Confs()); got != now {
		t.Error(got)
	}
	spoil(x.Confs())
	c, _ := x.Conf(1)
	spoil([]api.Conf{c})
	x.Gaps()
	if got := texts(x.Confs()); got != now {
		t.Error(got)
	}
	learn(t, x, step{4, cmd(api.Remove, 1, 1, 4), "chain 1 epoch 2: 3"})
}

// history makes commands of which many are possible, one behind the other.
func history(random *rand.Rand, l []api.Conf) []api.Cmd {
	made := make([]api.Cmd, 1+random.Intn(40))
	for slot := range made {
		var c api.Cmd
		for range 20 {
			chain := random.Intn(len(l))
			c = cmd(1+random.Intn(4), chain, l[chain].Epoch+uint64(random.Intn(8)/7), 1+random.Intn(12))
			if conf.Can(l, c) == api.OK {
				break
			}
		}
		if random.Intn(8) == 0 {
			c = api.Cmd{}
		}
		made[slot] = c
		l, _ = conf.Do(l, c)
	}
	return made
}

// P12.3: in whatever order the same commands are learned, some of them twice, the configurations are the same in the end, and those of each chain resulted with the same increasing epochs.
func TestOrderDoesNotMatter(t *testing.T) {
	random := rand.New(rand.NewSource(123))
	for range 300 {
		l, _ := conf.Begin(1+random.Intn(3), 1+random.Intn(3))
		commands := history(random, l)
		var first string
		for try := range 4 {
			order := random.Perm(len(commands))
			if try == 0 {
				slices.Sort(order)
			}
			x := newLog(t, l)
			resulted := learnAll(t, x, commands, order, random)
			checkEpochs(t, l, resulted)
			end := texts(resulted) + "\n" + texts(x.Confs())
			if try == 0 {
				first = end
			}
			if end != first || x.Next() != len(commands) || x.Top() != len(commands) || len(x.Gaps()) != 0 {
				t.Fatalf("%v in the order %v is %q; want %q", commands, order, end, first)
			}
			if want := doneOf(l, commands); x.Done() != want || len(resulted) != want {
				t.Fatal("done are", x.Done(), "want", want)
			}
		}
	}
}

// learnAll learns the commands in that order, and holds the log against what it must know by then; it returns all configurations that resulted.
func learnAll(t *testing.T, x *chosen.Log, commands []api.Cmd, order []int, random *rand.Rand) []api.Conf {
	t.Helper()
	var resulted []api.Conf
	known := make([]bool, len(commands)+1)
	for i, slot := range order {
		l, e := x.Learn(slot, commands[slot])
		if e != api.OK {
			t.Fatal(slot, commands[slot], int(e))
		}
		resulted = append(resulted, l...)
		known[slot] = true
		if next := slices.Index(known, false); x.Next() != next {
			t.Fatal("next is", x.Next(), "want", next)
		}
		again := order[random.Intn(i+1)]
		if l, e := x.Learn(again, commands[again]); len(l) != 0 || e != api.OK {
			t.Fatal(again, "again is", l, int(e))
		}
	}
	return resulted
}

// doneOf counts the commands that are executed in the order of the slots, except Noop.
func doneOf(l []api.Conf, commands []api.Cmd) int {
	done := 0
	for _, c := range commands {
		made, ok := conf.Do(l, c)
		if ok && c.Kind != api.Noop {
			done++
		}
		l = made
	}
	return done
}

// checkEpochs holds that the epochs of each chain go up by one, from that of its first configuration on.
func checkEpochs(t *testing.T, l, resulted []api.Conf) {
	t.Helper()
	last := make([]uint64, len(l))
	for i, c := range l {
		last[i] = c.Epoch
	}
	for _, c := range resulted {
		if c.Epoch != last[c.Chain]+1 {
			t.Fatal(c, "behind the epoch", last[c.Chain])
		}
		last[c.Chain] = c.Epoch
	}
}

// P12.1, P12.2: there is no log.
func TestNil(t *testing.T) {
	var x *chosen.Log
	for _, n := range []int{-1, 0, 1, 511, 512, math.MinInt, math.MaxInt} {
		for _, c := range []api.Cmd{{}, {Kind: 5}, {Node: 1}, cmd(api.Remove, 0, 1, 1)} {
			if l, e := x.Learn(n, c); len(l) != 0 || e != api.ErrNil {
				t.Error("learn", n, c, "is", l, int(e))
			}
			if e := x.Can(c); e != api.ErrNil {
				t.Error("can", c, "is", int(e))
			}
		}
		if c, ok := x.At(n); c != (api.Cmd{}) || ok {
			t.Error("at", n, "is", c, ok)
		}
		if c, ok := x.Conf(n); !conf.Same(c, api.Conf{}) || ok {
			t.Error("the configuration of", n, "is", c, ok)
		}
	}
	if x.Next() != 0 || x.Top() != 0 || x.Done() != 0 || len(x.Gaps()) != 0 || len(x.Confs()) != 0 {
		t.Error(x.Next(), x.Top(), x.Done(), x.Gaps(), x.Confs())
	}
}
