package lead_test

import (
	"math"
	"math/rand"
	"slices"
	"testing"

	"catenary/api"
	"catenary/lead"
)

const lastRound = 8 * (1<<60 - 1) // and the master

// noSlots are numbers from which nothing is prepared.
var noSlots = []int{-1, -2, math.MinInt, api.MaxSlots + 1, 1 << 16, 1 << 32, 1<<32 + 1, math.MaxInt}

// noMasters are numbers of no master of three.
var noMasters = []int{0, -1, 4, 5, 6, 63, 64, 65, 101, 103, 1<<32 + 1, math.MinInt, math.MaxInt}

// remove is some valid command, another one for each node.
func remove(node int) api.Cmd {
	return api.Cmd{Kind: api.Remove, Chain: 1, Epoch: 20, Node: node}
}

func vote(slot int, b uint64, c api.Cmd) api.Vote {
	return api.Vote{Slot: slot, Ballot: b, Cmd: c}
}

// state is all that can be asked of a leader.
type state struct {
	state  int
	ballot uint64
	from   int
	next   int
	open   []api.Vote
}

func mustHave(t *testing.T, x *lead.Lead, want state) {
	t.Helper()
	if x.State() != want.state || x.Ballot() != want.ballot || x.From() != want.from || x.Next() != want.next {
		t.Error("state", x.State(), "ballot", x.Ballot(), "from", x.From(), "next", x.Next(), "want", want)
	}
	if got := x.Open(); !slices.Equal(got, want.open) {
		t.Error("open are", got, "want", want.open)
	}
}

func newLead(t *testing.T, me, masters int) *lead.Lead {
	t.Helper()
	x, e := lead.New(me, masters)
	if x == nil || e != api.OK {
		t.Fatal(me, "of", masters, "is", int(e))
	}
	return x
}

func start(t *testing.T, x *lead.Lead, above uint64, from int, want uint64) {
	t.Helper()
	if b, e := x.Start(above, from); b != want || e != api.OK {
		t.Error("start above", above, "is", b, int(e), "want", want)
	}
}

func promise(t *testing.T, x *lead.Lead, b uint64, who int, votes []api.Vote, want []api.Vote, leads bool) {
	t.Helper()
	if got, ok := x.Promise(b, who, votes); !slices.Equal(got, want) || ok != leads {
		t.Error("the promise of", b, "by", who, "is", got, ok, "want", want, leads)
	}
}

func accepted(t *testing.T, x *lead.Lead, b uint64, slot, who int, want api.Vote, chosen bool) {
	t.Helper()
	if got, ok := x.Accepted(b, slot, who); got != want || ok != chosen {
		t.Error("accepting", b, slot, "by", who, "is", got, ok, "want", want, chosen)
	}
}

// leading returns the third one of three masters, which leads with the ballot 11 from the slot 4 on, and has two proposals.
func leading(t *testing.T) (*lead.Lead, state) {
	t.Helper()
	x := newLead(t, 3, 3)
	start(t, x, 0, 4, 11)
	open := []api.Vote{vote(4, 11, api.Cmd{}), vote(5, 11, remove(1))}
	promise(t, x, 11, 1, nil, nil, false)
	promise(t, x, 11, 2, []api.Vote{vote(5, 9, remove(1))}, open, true)
	return x, state{lead.Leading, 11, 4, 6, open}
}

// preparing returns the third one of three masters, which prepares from the slot 4 on, and has a promise of the first one.
func preparing(t *testing.T) (*lead.Lead, state) {
	t.Helper()
	x := newLead(t, 3, 3)
	start(t, x, 0, 4, 11)
	promise(t, x, 11, 1, []api.Vote{vote(4, 10, remove(7))}, nil, false)
	return x, state{lead.Preparing, 11, 4, 4, nil}
}

// idle returns the third one of three masters, which led, and gave up.
func idle(t *testing.T) (*lead.Lead, state) {
	t.Helper()
	x, s := leading(t)
	if !x.Refuse(12) {
		t.Error("12 is not refused to 11")
	}
	return x, state{lead.Idle, 11, s.from, s.next, nil}
}

// fresh returns the third one of three masters, which did nothing yet.
func fresh(t *testing.T) (*lead.Lead, state) {
	t.Helper()
	return newLead(t, 3, 3), state{}
}

func each(f func(make func(t *testing.T) (*lead.Lead, state))) {
	for _, made := range []func(t *testing.T) (*lead.Lead, state){fresh, idle, preparing, leading} {
		f(made)
	}
}

// P13.1: the constants of the chapter.
func TestConstants(t *testing.T) {
	if lead.Idle != 0 || lead.Preparing != 1 || lead.Leading != 2 || lead.MaxOpen != 8 {
		t.Error(lead.Idle, lead.Preparing, lead.Leading, lead.MaxOpen)
	}
}

// P13.1: one of 1 to 5 masters is idle at first; all else is ErrArg.
func TestNew(t *testing.T) {
	numbers := []int{-1, 0, 1, 2, 3, 4, 5, 6, 7, 101, 1<<32 + 1, math.MinInt, math.MaxInt}
	for _, masters := range numbers {
		for _, me := range numbers {
			x, e := lead.New(me, masters)
			if masters >= 1 && masters <= 5 && me >= 1 && me <= masters {
				if x == nil || e != api.OK {
					t.Fatal(me, "of", masters, "is", int(e))
				}
				mustHave(t, x, state{})
			} else if x != nil || e != api.ErrArg {
				t.Error(me, "of", masters, "is", x, int(e))
			}
		}
	}
}

// P13.1: the next ballot of its own, above the given one and its last one.
func TestStart(t *testing.T) {
	x := newLead(t, 3, 5)
	for _, c := range []struct {
		above uint64
		from  int
		want  uint64
	}{
		{0, 0, 11}, {0, 512, 19}, {11, 3, 27}, {27, 0, 35}, {34, 511, 43}, {44, 1, 51}, {58, 2, 59}, {59, 2, 67}, {80, 0, 83}, {83, 0, 91}, {1 << 40, 7, 1<<40 + 3}, {0, 9, 1<<40 + 11},
		{lastRound - 6, 5, lastRound - 5}, {lastRound - 5, 5, lastRound + 3},
	} {
		start(t, x, c.above, c.from, c.want)
		mustHave(t, x, state{lead.Preparing, c.want, c.from, c.from, nil})
	}
	for me, want := range []uint64{9, 10, 11, 12, 13} {
		start(t, newLead(t, me+1, 5), 0, 0, want)
	}
}

// P13.1: whatever it was, it prepares without promises and proposals.
func TestStartAnew(t *testing.T) {
	each(func(made func(t *testing.T) (*lead.Lead, state)) {
		x, _ := made(t)
		start(t, x, 17, 5, 19)
		mustHave(t, x, state{lead.Preparing, 19, 5, 5, nil})
		promise(t, x, 11, 2, nil, nil, false) // of the previous ballot
		promise(t, x, 19, 2, nil, nil, false) // alone: the one that was promised before does not count
		mustHave(t, x, state{lead.Preparing, 19, 5, 5, nil})
		promise(t, x, 19, 3, nil, nil, true)
		mustHave(t, x, state{lead.Leading, 19, 5, 5, nil})
	})
}

// P13.1: ErrArg of a slot, then ErrFull of ballots; and an error changes nothing.
func TestStartErrors(t *testing.T) {
	full := []uint64{lastRound + 3, lastRound + 4, lastRound + 5, 1<<63 + 3, math.MaxUint64}
	each(func(made func(t *testing.T) (*lead.Lead, state)) {
		x, want := made(t)
		check := func(above uint64, from int, e api.Errno) {
			t.Helper()
			if b, got := x.Start(above, from); b != 0 || got != e {
				t.Error("start above", above, "from", from, "is", b, int(got), "want", int(e))
			}
			mustHave(t, x, want)
		}
		for _, from := range noSlots {
			for _, above := range append([]uint64{0, 9, 50}, full...) {
				check(above, from, api.ErrArg)
			}
		}
		for _, above := range full {
			check(above, 0, api.ErrFull)
			check(above, 512, api.ErrFull)
		}
	})
	x := newLead(t, 2, 2)
	start(t, x, lastRound+1, 3, lastRound+2)
	if b, e := x.Start(0, 4); b != 0 || e != api.ErrFull { // its own one is the last one
		t.Error("behind the last ballot", b, int(e))
	}
	mustHave(t, x, state{lead.Preparing, lastRound + 2, 3, 3, nil})
}

// P13.2: it leads by the promise by which more than half of the masters have promised, in whatever order these come.
func TestPromiseOfEnough(t *testing.T) {
	random := rand.New(rand.NewSource(132))
	for masters := 1; masters <= 5; masters++ {
		for range 20 {
			x := newLead(t, 1+random.Intn(masters), masters)
			b, _ := x.Start(0, 7)
			for i, at := range random.Perm(masters)[:masters/2+1] {
				leads := i == masters/2
				promise(t, x, b, at+1, nil, nil, leads)
				promise(t, x, b, at+1, nil, nil, false) // again: it counts once, and not at all where it leads
				if leads != (x.State() == lead.Leading) {
					t.Error(i, "of", masters, "is", x.State())
				}
			}
			mustHave(t, x, state{lead.Leading, b, 7, 7, nil})
		}
	}
}

// P13.2: what is no promise to one that prepares, with its ballot, by one of its masters, has no effect.
func TestPromiseOfNothing(t *testing.T) {
	votes := []api.Vote{vote(6, 9, remove(2))}
	for _, made := range []func(t *testing.T) (*lead.Lead, state){fresh, idle, leading} {
		x, want := made(t)
		for who := -1; who <= 6; who++ {
			for _, b := range []uint64{0, 9, 11, 19} {
				promise(t, x, b, who, votes, nil, false)
				mustHave(t, x, want)
			}
		}
	}
	x, want := preparing(t)
	for _, who := range noMasters {
		promise(t, x, 11, who, votes, nil, false)
		mustHave(t, x, want)
	}
	for _, b := range []uint64{0, 1, 3, 9, 10, 12, 13, 19, 1<<32 + 11, math.MaxUint64} {
		for who := range 4 {
			promise(t, x, b, who, votes, nil, false)
			mustHave(t, x, want)
		}
	}
	promise(t, x, 11, 3, nil, []api.Vote{vote(4, 11, remove(7))}, true) // only what the first one promised
}

// P13.2: the first votes of a master count, not what it sends again.
func TestFirstVotesCount(t *testing.T) {
	x := newLead(t, 1, 3)
	start(t, x, 17, 2, 25)
	first := []api.Vote{vote(2, 9, remove(1)), vote(3, 10, remove(2))}
	promise(t, x, 25, 2, first, nil, false)
	first[0], first[1] = vote(2, 18, remove(9)), vote(8, 18, remove(9)) // the caller's memory is the caller's
	promise(t, x, 25, 2, []api.Vote{vote(2, 17, remove(3)), vote(5, 17, remove(4))}, nil, false)
	promise(t, x, 25, 2, nil, nil, false)
	promise(t, x, 25, 1, nil, []api.Vote{vote(2, 25, remove(1)), vote(3, 25, remove(2))}, true)
	mustHave(t, x, state{lead.Leading, 25, 2, 4, []api.Vote{vote(2, 25, remove(1)), vote(3, 25, remove(2))}})

	x = newLead(t, 1, 3)
	start(t, x, 17, 2, 25)
	promise(t, x, 25, 2, nil, nil, false) // nothing is what counts, then
	promise(t, x, 25, 2, []api.Vote{vote(2, 17, remove(3))}, nil, false)
	promise(t, x, 25, 3, nil, nil, true)
	mustHave(t, x, state{lead.Leading, 25, 2, 2, nil})
}

// promised are the votes of a master.
type promised struct {
	who   int
	votes []api.Vote
}

// P13.2: the best vote of each slot from From on becomes a proposal, and a Noop where there is none ahead of the greatest one.
func TestProposalsOfVotes(t *testing.T) {
	x, y, z := remove(1), remove(2), remove(3)
	noop := api.Cmd{}
	for _, c := range []struct {
		from int
		of   []promised
		want []api.Cmd // from that slot on
	}{
		{0, []promised{{1, nil}, {2, []api.Vote{vote(0, 9, x)}}, {3, nil}}, []api.Cmd{x}},
		{0, []promised{{3, []api.Vote{vote(3, 9, x)}}, {2, nil}, {1, []api.Vote{vote(1, 9, y)}}}, []api.Cmd{noop, y, noop, x}},
		{3, []promised{{3, []api.Vote{vote(3, 9, x)}}, {2, nil}, {1, []api.Vote{vote(1, 9, y)}}}, []api.Cmd{x}},
		{4, []promised{{3, []api.Vote{vote(3, 9, x)}}, {2, nil}, {1, []api.Vote{vote(1, 9, y)}}}, nil},
		{1, []promised{{1, []api.Vote{vote(1, 9, x), vote(2, 17, x)}}, {4, []api.Vote{vote(1, 17, y), vote(2, 9, y)}}, {5, []api.Vote{vote(1, 10, z), vote(2, 10, z)}}}, []api.Cmd{y, x}},
		{1, []promised{{5, []api.Vote{vote(1, 9, x)}}, {4, []api.Vote{vote(1, 9, y)}}, {2, []api.Vote{vote(1, 9, z)}}}, []api.Cmd{z}}, // of the same ballot: by masters, not as they came
		{1, []promised{{2, []api.Vote{vote(1, 9, x), vote(1, 9, y)}}, {4, []api.Vote{vote(1, 9, z)}}, {3, nil}}, []api.Cmd{x}},
		{1, []promised{{2, []api.Vote{vote(1, 9, x), vote(1, 11, y), vote(1, 10, z)}}, {1, nil}, {3, nil}}, []api.Cmd{y}},
		{1, []promised{{2, []api.Vote{vote(3, 9, x), vote(1, 9, y)}}, {1, nil}, {3, nil}}, []api.Cmd{y, noop, x}}, // in whatever order
		{1, []promised{{2, []api.Vote{vote(1, 9, noop), vote(2, 9, noop)}}, {1, []api.Vote{vote(2, 8, x)}}, {3, nil}}, []api.Cmd{noop, noop}},
		{1, []promised{{2, []api.Vote{vote(1, 9, x), vote(2, 0, x)}}, {1, []api.Vote{vote(1, math.MaxUint64, y)}}, {3, nil}}, []api.Cmd{y, x}},
		{2, []promised{{1, []api.Vote{vote(-1, 9, x), vote(0, 9, x), vote(1, 9, x), vote(512, 9, x), vote(513, 9, x)}}, {2, []api.Vote{vote(math.MinInt, 9, x), vote(math.MaxInt, 9, x), vote(1<<32+2, 9, x)}}, {3, nil}}, nil},
		{511, []promised{{1, []api.Vote{vote(511, 9, x), vote(512, 9, y)}}, {2, []api.Vote{vote(510, 9, y)}}, {3, nil}}, []api.Cmd{x}},
		{512, []promised{{1, []api.Vote{vote(511, 9, x), vote(512, 9, y)}}, {2, nil}, {3, nil}}, nil},
	} {
		l := newLead(t, 1, 5)
		start(t, l, 1000, c.from, 1001)
		promise(t, l, 1001, c.of[0].who, c.of[0].votes, nil, false)
		promise(t, l, 1001, c.of[1].who, c.of[1].votes, nil, false)
		was := slices.Clone(c.of[2].votes)
		var want []api.Vote
		for i, cmd := range c.want {
			want = append(want, vote(c.from+i, 1001, cmd))
		}
		promise(t, l, 1001, c.of[2].who, c.of[2].votes, want, true)
		mustHave(t, l, state{lead.Leading, 1001, c.from, c.from + len(want), want})
		if !slices.Equal(was, c.of[2].votes) {
			t.Error("an argument was changed", was, c.of[2].votes)
		}
	}
}

// P13.2, P13.3: all slots can be proposals, more than MaxOpen of them; then there is no room until few are left, and no slot either.
func TestAllSlots(t *testing.T) {
	x := newLead(t, 1, 1)
	start(t, x, 0, 0, 9)
	var want []api.Vote
	for slot := range api.MaxSlots {
		want = append(want, vote(slot, 9, api.Cmd{}))
	}
	want[511].Cmd = remove(5)
	promise(t, x, 9, 1, []api.Vote{vote(511, 9, remove(5))}, want, true)
	mustHave(t, x, state{lead.Leading, 9, 0, 512, want})
	for slot := range api.MaxSlots {
		if v, e := x.Propose(remove(1)); v != (api.Vote{}) || e != api.ErrFull {
			t.Fatal("proposed", v, int(e))
		}
		accepted(t, x, 9, slot, 1, want[slot], true)
	}
	mustHave(t, x, state{lead.Leading, 9, 0, 512, nil})
	for _, c := range []api.Cmd{{}, remove(1), remove(5)} {
		if v, e := x.Propose(c); v != (api.Vote{}) || e != api.ErrFull {
			t.Error("proposed", v, int(e))
		}
	}
}

// P13.2, P13.3: with more than MaxOpen proposals of votes nothing is proposed until there are fewer.
func TestManyVotes(t *testing.T) {
	x := newLead(t, 1, 1)
	start(t, x, 0, 20, 9)
	if l, ok := x.Promise(9, 1, []api.Vote{vote(30, 9, remove(5))}); len(l) != 11 || !ok {
		t.Error(l, ok)
	}
	for slot := 20; slot < 24; slot++ {
		if v, e := x.Propose(remove(1)); v != (api.Vote{}) || e != api.ErrFull {
			t.Error("proposed", v, int(e))
		}
		accepted(t, x, 9, slot, 1, vote(slot, 9, api.Cmd{}), true)
	}
	if v, e := x.Propose(remove(1)); v != vote(31, 9, remove(1)) || e != api.OK {
		t.Error(v, int(e))
	}
}

// P13.3: proposals have the slots from Next on, one by one, up to MaxOpen of them.
func TestPropose(t *testing.T) {
	x := newLead(t, 2, 3)
	start(t, x, 0, 505, 10)
	promise(t, x, 10, 2, nil, nil, false)
	promise(t, x, 10, 3, nil, nil, true)
	var open []api.Vote
	propose := func(c api.Cmd, e api.Errno) {
		t.Helper()
		var want api.Vote
		if e == api.OK {
			want = vote(x.Next(), 10, c)
			open = append(open, want)
		}
		if v, got := x.Propose(c); v != want || got != e {
			t.Error("proposing", c, "is", v, int(got), "want", want, int(e))
		}
		next := 505
		if len(open) > 0 {
			next = open[len(open)-1].Slot + 1
		}
		mustHave(t, x, state{lead.Leading, 10, 505, next, open})
	}
	propose(remove(1), api.OK)
	propose(remove(1), api.ErrThere)
	propose(api.Cmd{}, api.OK)
	propose(api.Cmd{}, api.OK) // a Noop as often as one likes
	propose(api.Cmd{Kind: api.Append, Chain: 1, Epoch: 20, Node: 1}, api.OK)
	propose(api.Cmd{Kind: api.Remove, Chain: 0, Epoch: 20, Node: 1}, api.OK)
	propose(api.Cmd{Kind: api.Remove, Chain: 1, Epoch: 21, Node: 1}, api.OK)
	propose(api.Cmd{Kind: 5, Chain: -1}, api.ErrArg)
	propose(remove(2), api.OK) // at 511
	propose(remove(3), api.ErrFull)
	propose(remove(1), api.ErrThere) // comes ahead of ErrFull
	propose(remove(25), api.ErrForm)

	accepted(t, x, 10, 505, 1, api.Vote{}, false)
	accepted(t, x, 10, 505, 3, open[0], true)
	open = open[1:]
	propose(remove(1), api.ErrFull) // chosen, so it is there no more; but no slot is left
}

// P13.3: MaxOpen proposals, and one more when one of them was chosen; what was chosen may be proposed once more.
func TestMaxOpen(t *testing.T) {
	x := newLead(t, 1, 1)
	start(t, x, 0, 0, 9)
	promise(t, x, 9, 1, nil, nil, true)
	for i := range lead.MaxOpen {
		if v, e := x.Propose(remove(i + 1)); v != vote(i, 9, remove(i+1)) || e != api.OK {
			t.Error(v, int(e))
		}
	}
	for _, c := range []api.Cmd{{}, remove(20)} {
		if v, e := x.Propose(c); v != (api.Vote{}) || e != api.ErrFull || x.Next() != lead.MaxOpen {
			t.Error(v, int(e))
		}
	}
	for _, node := range []int{1, 8} {
		if v, e := x.Propose(remove(node)); v != (api.Vote{}) || e != api.ErrThere {
			t.Error(v, int(e))
		}
	}
	accepted(t, x, 9, 3, 1, vote(3, 9, remove(4)), true)
	if v, e := x.Propose(remove(4)); v != vote(8, 9, remove(4)) || e != api.OK {
		t.Error(v, int(e))
	}
	if v, e := x.Propose(remove(20)); v != (api.Vote{}) || e != api.ErrFull {
		t.Error(v, int(e))
	}
}

// P13.3: ErrState unless it leads, then the error of Check, then ErrThere, then ErrFull; and an error changes nothing.
func TestProposeErrors(t *testing.T) {
	wrongs := []struct {
		c api.Cmd
		e api.Errno
	}{
		{api.Cmd{Kind: 5}, api.ErrArg}, {api.Cmd{Kind: -1, Node: 99}, api.ErrArg}, {api.Cmd{Kind: math.MinInt}, api.ErrArg},
		{api.Cmd{Node: 1}, api.ErrForm}, {api.Cmd{Epoch: 1}, api.ErrForm}, {api.Cmd{Kind: api.Remove}, api.ErrForm}, {api.Cmd{Kind: api.Append, Chain: 4, Epoch: 1, Node: 1}, api.ErrForm}, {remove(0), api.ErrForm}, {remove(25), api.ErrForm},
	}
	for _, made := range []func(t *testing.T) (*lead.Lead, state){fresh, idle, preparing} {
		x, want := made(t)
		for _, w := range append(wrongs, wrongs[0]) {
			if v, e := x.Propose(w.c); v != (api.Vote{}) || e != api.ErrState {
				t.Error("proposing", w.c, "is", v, int(e))
			}
		}
		for _, c := range []api.Cmd{{}, remove(1), remove(2)} {
			if v, e := x.Propose(c); v != (api.Vote{}) || e != api.ErrState {
				t.Error("proposing", c, "is", v, int(e))
			}
		}
		mustHave(t, x, want)
	}
	x, want := leading(t)
	for _, w := range wrongs {
		if v, e := x.Propose(w.c); v != (api.Vote{}) || e != w.e {
			t.Error("proposing", w.c, "is", v, int(e), "want", int(w.e))
		}
		mustHave(t, x, want)
	}
	if v, e := x.Propose(remove(1)); v != (api.Vote{}) || e != api.ErrThere { // a proposal that came of a vote
		t.Error(v, int(e))
	}
	mustHave(t, x, want)
}

// P13.4: a proposal is chosen by the acceptance with which more than half of the masters accepted it, each counted once.
func TestAcceptedByEnough(t *testing.T) {
	random := rand.New(rand.NewSource(134))
	for masters := 1; masters <= 5; masters++ {
		for range 20 {
			x := newLead(t, 1, masters)
			start(t, x, 0, 0, 9)
			for who := range masters {
				x.Promise(9, who+1, nil)
			}
			other, _ := x.Propose(remove(1))
			v, e := x.Propose(remove(2))
			if v != vote(1, 9, remove(2)) || e != api.OK {
				t.Fatal(v, int(e))
			}
			for i, at := range random.Perm(masters)[:masters/2+1] {
				if i < masters/2 {
					accepted(t, x, 9, 1, at+1, api.Vote{}, false)
					accepted(t, x, 9, 1, at+1, api.Vote{}, false)
					mustHave(t, x, state{lead.Leading, 9, 0, 2, []api.Vote{other, v}})
				} else {
					accepted(t, x, 9, 1, at+1, v, true)
				}
			}
			mustHave(t, x, state{lead.Leading, 9, 0, 2, []api.Vote{other}})
			for who := range masters {
				accepted(t, x, 9, 1, who+1, api.Vote{}, false) // it is a proposal no more
			}
			mustHave(t, x, state{lead.Leading, 9, 0, 2, []api.Vote{other}})
		}
	}
}

// P13.4: what is no acceptance of a proposal, with its ballot, by one of its masters, has no effect.
func TestAcceptedOfNothing(t *testing.T) {
	for _, made := range []func(t *testing.T) (*lead.Lead, state){fresh, idle, preparing} {
		x, want := made(t)
		for _, b := range []uint64{0, 9, 11, 19} {
			for who := range 5 {
				accepted(t, x, b, 4, who, api.Vote{}, false)
				accepted(t, x, b, 0, who, api.Vote{}, false)
			}
		}
		mustHave(t, x, want)
	}
	x, want := leading(t)
	accepted(t, x, 11, 4, 1, api.Vote{}, false)
	for _, who := range noMasters {
		accepted(t, x, 11, 4, who, api.Vote{}, false)
	}
	for _, b := range []uint64{0, 3, 9, 10, 12, 13, 19, 1<<32 + 11, math.MaxUint64} {
		accepted(t, x, b, 4, 2, api.Vote{}, false)
		accepted(t, x, b, 4, 3, api.Vote{}, false)
	}
	for _, slot := range append([]int{0, 3, 6, 7, 511, 512}, noSlots...) {
		accepted(t, x, 11, slot, 2, api.Vote{}, false)
		accepted(t, x, 11, slot, 3, api.Vote{}, false)
	}
	mustHave(t, x, want)
	accepted(t, x, 11, 5, 2, api.Vote{}, false) // each slot is counted alone
	accepted(t, x, 11, 5, 3, want.open[1], true)
	accepted(t, x, 11, 4, 3, want.open[0], true)
	mustHave(t, x, state{lead.Leading, 11, 4, 6, nil})
}

// P13.4: it becomes idle by a ballot above its own, and by nothing else.
func TestRefuse(t *testing.T) {
	each(func(made func(t *testing.T) (*lead.Lead, state)) {
		for _, b := range []uint64{0, 1, 9, 10, 11, 12, 16, 19, 1 << 32, math.MaxUint64} {
			x, want := made(t)
			refused := b > 11 && want.state != lead.Idle
			if got := x.Refuse(b); got != refused {
				t.Error("refuse", b, "to", want, "is", got)
			}
			if refused {
				want.state, want.open = lead.Idle, nil
			}
			mustHave(t, x, want)
			if refused && x.Refuse(b) {
				t.Error("refused twice", b)
			}
		}
	})
}

// P13.4: what was promised and accepted before it was refused counts no more.
func TestRefusedForgets(t *testing.T) {
	x, _ := preparing(t)
	x.Refuse(12)
	promise(t, x, 11, 2, nil, nil, false)
	mustHave(t, x, state{lead.Idle, 11, 4, 4, nil})
	start(t, x, 12, 3, 19)
	promise(t, x, 19, 2, nil, nil, false)
	promise(t, x, 19, 1, nil, nil, true) // without the vote that it sent before
	mustHave(t, x, state{lead.Leading, 19, 3, 3, nil})

	x, _ = leading(t)
	accepted(t, x, 11, 4, 1, api.Vote{}, false)
	x.Refuse(12)
	accepted(t, x, 11, 4, 2, api.Vote{}, false)
	start(t, x, 12, 4, 19)
	promise(t, x, 19, 2, nil, nil, false)
	promise(t, x, 19, 3, []api.Vote{vote(4, 11, remove(3))}, []api.Vote{vote(4, 19, remove(3))}, true)
	accepted(t, x, 19, 4, 2, api.Vote{}, false)
	accepted(t, x, 19, 4, 1, vote(4, 19, remove(3)), true)
}

// P13.5, rule 5: proposals are new memory each time, in increasing order of slots.
func TestOpen(t *testing.T) {
	x, want := leading(t)
	for node := 2; node < 8; node++ {
		v, _ := x.Propose(remove(node))
		want.open = append(want.open, v)
		want.next++
	}
	mustHave(t, x, want)
	l := x.Open()
	for i := range l {
		l[i] = api.Vote{}
	}
	mustHave(t, x, want)

	x = newLead(t, 1, 1)
	start(t, x, 0, 0, 9)
	votes := []api.Vote{vote(0, 9, remove(1)), vote(1, 9, remove(2))}
	made, _ := x.Promise(9, 1, votes)
	votes[0], made[1] = api.Vote{}, api.Vote{}
	mustHave(t, x, state{lead.Leading, 9, 0, 2, []api.Vote{vote(0, 9, remove(1)), vote(1, 9, remove(2))}})
}

// P13.2: the example of the chapter.
func TestExample(t *testing.T) {
	x := newLead(t, 1, 3)
	start(t, x, 0, 0, 9)
	promise(t, x, 9, 1, nil, nil, false)
	promise(t, x, 9, 2, nil, nil, true)
	mustHave(t, x, state{lead.Leading, 9, 0, 0, nil})
}

// P13.1 to P13.5: there is no leader.
func TestNil(t *testing.T) {
	var x *lead.Lead
	for _, n := range []int{-1, 0, 1, 512, 513, math.MinInt, math.MaxInt} {
		if b, e := x.Start(0, n); b != 0 || e != api.ErrNil {
			t.Error("start", b, int(e))
		}
		if l, ok := x.Promise(9, n, []api.Vote{vote(1, 9, remove(1))}); len(l) != 0 || ok {
			t.Error("promise", l, ok)
		}
		if v, ok := x.Accepted(9, n, n); v != (api.Vote{}) || ok {
			t.Error("accepted", v, ok)
		}
	}
	for _, c := range []api.Cmd{{}, remove(1), {Kind: 9}} {
		if v, e := x.Propose(c); v != (api.Vote{}) || e != api.ErrNil {
			t.Error("propose", v, int(e))
		}
	}
	if x.Refuse(9) || x.Refuse(math.MaxUint64) {
		t.Error("refused")
	}
	mustHave(t, x, state{})
}
