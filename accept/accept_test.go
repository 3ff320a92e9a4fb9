package accept_test

import (
	"math"
	"math/rand"
	"slices"
	"testing"

	"catenary/accept"
	"catenary/api"
)

const (
	firstBallot = 9               // round 1 of master 1
	lastBallot  = 8*(1<<60-1) + 5 // the last round of master 5
	manyRandoms = 3000
)

// noBallots are numbers that are no ballots, those beside the first and the last ones among them.
var noBallots = []uint64{0, 1, 5, 7, 8, 14, 15, 16, 22, 1 << 32, 1<<62 + 6, lastBallot + 1, lastBallot + 3, lastBallot + 4, 1<<63 + 1, math.MaxUint64}

// noSlots are numbers that no slot has, and from which no votes are asked for either, but for MaxSlots.
var noSlots = []int{-1, -2, math.MinInt, math.MinInt + 1, api.MaxSlots + 1, 1 << 16, 1 << 32, 1<<32 + 1, math.MaxInt}

// remove is some valid command, another one for each node.
func remove(node int) api.Cmd {
	return api.Cmd{Kind: api.Remove, Chain: 1, Epoch: 20, Node: node}
}

func vote(slot int, b uint64, c api.Cmd) api.Vote {
	return api.Vote{Slot: slot, Ballot: b, Cmd: c}
}

// wrongCmd is a command that is not valid, with the error of Check.
type wrongCmd struct {
	c api.Cmd
	e api.Errno
}

var wrongCmds = []wrongCmd{
	{api.Cmd{Kind: 5}, api.ErrArg}, {api.Cmd{Kind: -1}, api.ErrArg}, {api.Cmd{Kind: math.MinInt, Chain: -1}, api.ErrArg},
	{api.Cmd{Node: 1}, api.ErrForm}, {api.Cmd{Kind: api.Remove}, api.ErrForm}, {api.Cmd{Kind: api.Append, Chain: 4, Epoch: 1, Node: 1}, api.ErrForm},
	{api.Cmd{Kind: api.Settle, Epoch: 0, Node: 1}, api.ErrForm}, {api.Cmd{Kind: api.Promote, Epoch: 1, Node: 25}, api.ErrForm},
}

// mustHave holds everything that can be asked of an acceptor against what it promised and its votes, in increasing order of slots.
func mustHave(t *testing.T, a *accept.Acceptor, promised uint64, votes ...api.Vote) {
	t.Helper()
	if got := a.Promised(); got != promised {
		t.Error("promised", got, "want", promised)
	}
	if got := a.Len(); got != len(votes) {
		t.Error("there are", got, "want", len(votes))
	}
	if got := a.Votes(0); !slices.Equal(got, votes) {
		t.Error("the votes are", got, "want", votes)
	}
	for slot := -1; slot <= api.MaxSlots; slot++ {
		var want api.Vote
		at := slices.IndexFunc(votes, func(v api.Vote) bool { return v.Slot == slot })
		if at >= 0 {
			want = votes[at]
		}
		if got, ok := a.Vote(slot); got != want || ok != (at >= 0) {
			t.Error("the vote of", slot, "is", got, ok, "want", want)
		}
	}
}

// some returns an acceptor that has promised 35 and has three votes, and these.
func some(t *testing.T) (*accept.Acceptor, []api.Vote) {
	t.Helper()
	a := accept.New()
	votes := []api.Vote{vote(2, 18, remove(3)), vote(7, 9, api.Cmd{}), vote(511, 27, remove(4))}
	for _, at := range []int{1, 0, 2} {
		if e := a.Accept(votes[at].Ballot, votes[at].Slot, votes[at].Cmd); e != api.OK {
			t.Fatal(votes[at], int(e))
		}
	}
	if l, e := a.Prepare(35, 512); len(l) != 0 || e != api.OK {
		t.Fatal(l, int(e))
	}
	return a, votes
}

// P11.1: nothing is promised and nothing accepted, and two acceptors have nothing in common.
func TestNew(t *testing.T) {
	a, b := accept.New(), accept.New()
	mustHave(t, a, 0)
	if e := b.Accept(9, 0, remove(1)); e != api.OK {
		t.Error(int(e))
	}
	mustHave(t, a, 0)
	mustHave(t, b, 9, vote(0, 9, remove(1)))
}

// P11.1: a ballot that is not below the promised one is promised, and the votes of slots from from on are told.
func TestPrepare(t *testing.T) {
	a, votes := some(t)
	for _, c := range []struct {
		b    uint64
		from int
		want []api.Vote
	}{
		{35, 0, votes}, {35, 1, votes}, {35, 2, votes}, {36, 3, votes[1:]}, {41, 7, votes[1:]}, {41, 8, votes[2:]}, {41, 511, votes[2:]}, {1<<62 + 9, 512, nil},
		{lastBallot - 1, 0, votes}, {lastBallot, 0, votes}, {lastBallot, 500, votes[2:]},
	} {
		if got, e := a.Prepare(c.b, c.from); !slices.Equal(got, c.want) || e != api.OK {
			t.Error("prepare", c.b, c.from, "is", got, int(e))
		}
		mustHave(t, a, c.b, votes...)
	}
	for _, b := range []uint64{firstBallot, 10, 11, 12, 13, 17, lastBallot} {
		a := accept.New()
		if got, e := a.Prepare(b, 0); len(got) != 0 || e != api.OK {
			t.Error("prepare", b, "is", got, int(e))
		}
		mustHave(t, a, b)
	}
}

// P11.1: ErrArg ahead of ErrEpoch, and an error changes nothing.
func TestPrepareErrors(t *testing.T) {
	for _, b := range noBallots {
		for _, from := range append([]int{0, 2, 512}, noSlots...) {
			a, votes := some(t)
			if got, e := a.Prepare(b, from); len(got) != 0 || e != api.ErrArg {
				t.Error("prepare", b, from, "is", got, int(e))
			}
			mustHave(t, a, 35, votes...)
		}
	}
	for _, from := range noSlots {
		for _, b := range []uint64{9, 34, 35, 36, lastBallot} {
			a, votes := some(t)
			if got, e := a.Prepare(b, from); len(got) != 0 || e != api.ErrArg {
				t.Error("prepare", b, from, "is", got, int(e))
			}
			mustHave(t, a, 35, votes...)
		}
	}
	for _, b := range []uint64{9, 13, 18, 27, 33, 34} {
		for _, from := range []int{0, 7, 512} {
			a, votes := some(t)
			if got, e := a.Prepare(b, from); len(got) != 0 || e != api.ErrEpoch {
				t.Error("prepare", b, from, "is", got, int(e))
			}
			mustHave(t, a, 35, votes...)
		}
	}
}

// P11.1: accepting promises, too; the vote of a slot is the last one.
func TestAccept(t *testing.T) {
	a := accept.New()
	for _, c := range []struct {
		v    api.Vote
		want []api.Vote
	}{
		{vote(5, 9, remove(1)), []api.Vote{vote(5, 9, remove(1))}},
		{vote(0, 9, api.Cmd{}), []api.Vote{vote(0, 9, api.Cmd{}), vote(5, 9, remove(1))}},
		{vote(5, 9, remove(2)), []api.Vote{vote(0, 9, api.Cmd{}), vote(5, 9, remove(2))}},
		{vote(5, 11, remove(2)), []api.Vote{vote(0, 9, api.Cmd{}), vote(5, 11, remove(2))}},
		{vote(511, 12, remove(24)), []api.Vote{vote(0, 9, api.Cmd{}), vote(5, 11, remove(2)), vote(511, 12, remove(24))}},
		{vote(0, lastBallot, remove(3)), []api.Vote{vote(0, lastBallot, remove(3)), vote(5, 11, remove(2)), vote(511, 12, remove(24))}},
	} {
		if e := a.Accept(c.v.Ballot, c.v.Slot, c.v.Cmd); e != api.OK {
			t.Error("accept", c.v, "is", int(e))
		}
		mustHave(t, a, c.v.Ballot, c.want...)
	}
}

// P11.1: the examples of the chapter.
func TestExamples(t *testing.T) {
	a := accept.New()
	if l, e := a.Prepare(9, 0); len(l) != 0 || e != api.OK {
		t.Error(l, int(e))
	}
	if e := a.Accept(17, 0, remove(1)); e != api.OK {
		t.Error(int(e))
	}
	if l, e := a.Prepare(9, 0); len(l) != 0 || e != api.ErrEpoch {
		t.Error(l, int(e))
	}
	if l, e := a.Prepare(17, 0); !slices.Equal(l, []api.Vote{vote(0, 17, remove(1))}) || e != api.OK {
		t.Error(l, int(e))
	}
}

// P11.1: ErrArg of ballots and slots, then the error of Check, then ErrEpoch; and an error changes nothing.
func TestAcceptErrors(t *testing.T) {
	check := func(b uint64, slot int, c api.Cmd, want api.Errno) {
		t.Helper()
		a, votes := some(t)
		if e := a.Accept(b, slot, c); e != want {
			t.Error("accept", b, slot, c, "is", int(e), "want", int(want))
		}
		mustHave(t, a, 35, votes...)
	}
	form := api.Cmd{Node: 1}
	for _, b := range noBallots {
		check(b, 7, remove(1), api.ErrArg)
		check(b, 7, form, api.ErrArg)
		check(b, -1, form, api.ErrArg)
	}
	for _, slot := range append([]int{api.MaxSlots}, noSlots...) {
		check(41, slot, remove(1), api.ErrArg)
		check(41, slot, form, api.ErrArg)
		check(9, slot, remove(1), api.ErrArg)
		check(9, slot, form, api.ErrArg)
	}
	for _, w := range wrongCmds {
		check(41, 7, w.c, w.e)
		check(35, 3, w.c, w.e)
		check(9, 7, w.c, w.e)
	}
	for _, b := range []uint64{9, 18, 27, 34} {
		check(b, 7, remove(1), api.ErrEpoch)
		check(b, 511, remove(4), api.ErrEpoch)
		check(b, 0, api.Cmd{}, api.ErrEpoch)
	}
}

// P11.1: a fresh acceptor takes no wrong ballot either.
func TestErrorsOfNew(t *testing.T) {
	for _, b := range noBallots {
		a := accept.New()
		if l, e := a.Prepare(b, 0); len(l) != 0 || e != api.ErrArg {
			t.Error("prepare", b, "is", l, int(e))
		}
		if e := a.Accept(b, 0, api.Cmd{}); e != api.ErrArg {
			t.Error("accept", b, "is", int(e))
		}
		mustHave(t, a, 0)
	}
}

// P11.2: votes from a slot on, where a value below 0 counts as 0; and those of numbers that are no slots.
func TestVotes(t *testing.T) {
	a, votes := some(t)
	for _, c := range []struct {
		from int
		want []api.Vote
	}{
		{math.MinInt, votes}, {-1, votes}, {0, votes}, {2, votes}, {3, votes[1:]}, {7, votes[1:]}, {8, votes[2:]}, {511, votes[2:]}, {512, nil}, {513, nil}, {1 << 32, nil}, {math.MaxInt, nil},
	} {
		if got := a.Votes(c.from); !slices.Equal(got, c.want) {
			t.Error("from", c.from, "are", got)
		}
	}
	for _, slot := range append([]int{0, 1, 3, 6, 8, 510, api.MaxSlots}, noSlots...) {
		if v, ok := a.Vote(slot); v != (api.Vote{}) || ok {
			t.Error("the vote of", slot, "is", v, ok)
		}
	}
	if v, ok := a.Vote(7); v != vote(7, 9, api.Cmd{}) || !ok {
		t.Error("the vote of a Noop is", v, ok)
	}
}

// P11.2: all slots can have votes.
func TestVotesOfAllSlots(t *testing.T) {
	a := accept.New()
	want := make([]api.Vote, api.MaxSlots)
	for _, slot := range rand.New(rand.NewSource(112)).Perm(api.MaxSlots) {
		want[slot] = vote(slot, 9, remove(1+slot%24))
		if e := a.Accept(9, slot, want[slot].Cmd); e != api.OK {
			t.Fatal(slot, int(e))
		}
	}
	mustHave(t, a, 9, want...)
	if l, e := a.Prepare(9, 100); !slices.Equal(l, want[100:]) || e != api.OK {
		t.Error(len(l), int(e))
	}
}

// Rule 5: votes are new memory each time.
func TestVotesAreNew(t *testing.T) {
	a, votes := some(t)
	told, _ := a.Prepare(35, 0)
	asked := a.Votes(0)
	told[0], asked[1] = api.Vote{}, api.Vote{}
	mustHave(t, a, 35, votes...)
	if told[1] != votes[1] || asked[0] != votes[0] {
		t.Error("two results share memory")
	}
	lists := [][]api.Vote{{vote(3, 9, remove(1))}, {vote(1, 9, remove(2))}}
	best := accept.Best(lists...)
	best[0], best[1] = api.Vote{}, api.Vote{}
	if lists[0][0] != vote(3, 9, remove(1)) || lists[1][0] != vote(1, 9, remove(2)) {
		t.Error("an argument was changed", lists)
	}
	alone := accept.Best(lists[0])
	alone[0] = api.Vote{}
	if lists[0][0] != vote(3, 9, remove(1)) {
		t.Error("an argument was changed", lists[0])
	}
}

// P11.3: the greatest ballot of each slot, of several the first one, in the order of the slots.
func TestBest(t *testing.T) {
	x, y, z := remove(1), remove(2), remove(3)
	for _, c := range []struct {
		l    [][]api.Vote
		want []api.Vote
	}{
		{nil, nil}, {[][]api.Vote{nil}, nil}, {[][]api.Vote{nil, {}, nil}, nil},
		{[][]api.Vote{{vote(4, 9, x)}}, []api.Vote{vote(4, 9, x)}},
		{[][]api.Vote{{vote(4, 9, x), vote(2, 17, y), vote(3, 10, api.Cmd{})}}, []api.Vote{vote(2, 17, y), vote(3, 10, api.Cmd{}), vote(4, 9, x)}},
		{[][]api.Vote{{vote(4, 9, x)}, {vote(4, 10, y)}, {vote(4, 11, z)}}, []api.Vote{vote(4, 11, z)}},
		{[][]api.Vote{{vote(4, 11, z)}, {vote(4, 10, y)}, {vote(4, 9, x)}}, []api.Vote{vote(4, 11, z)}},
		{[][]api.Vote{{vote(4, 9, x)}, {vote(4, 9, y)}}, []api.Vote{vote(4, 9, x)}},
		{[][]api.Vote{{vote(4, 9, y)}, nil, {vote(4, 9, x)}}, []api.Vote{vote(4, 9, y)}},
		{[][]api.Vote{{vote(4, 9, x), vote(4, 9, y)}}, []api.Vote{vote(4, 9, x)}},
		{[][]api.Vote{{vote(4, 9, y), vote(4, 10, x), vote(4, 10, z)}, {vote(4, 10, z), vote(4, 9, z)}}, []api.Vote{vote(4, 10, x)}},
		{[][]api.Vote{{vote(0, 9, x), vote(511, 9, x)}, {vote(0, 10, y), vote(1, 9, y)}, {vote(511, 9, z), vote(1, 9, z)}}, []api.Vote{vote(0, 10, y), vote(1, 9, y), vote(511, 9, x)}},
		{[][]api.Vote{{vote(1, math.MaxUint64, x)}, {vote(1, math.MaxUint64-1, y)}}, []api.Vote{vote(1, math.MaxUint64, x)}},
		{[][]api.Vote{{vote(1, 0, x)}, {vote(1, 0, y), vote(0, 0, api.Cmd{})}}, []api.Vote{vote(0, 0, api.Cmd{}), vote(1, 0, x)}},
		{[][]api.Vote{{vote(1, 1<<63, x)}, {vote(1, 1, y)}}, []api.Vote{vote(1, 1<<63, x)}},
		{[][]api.Vote{{vote(math.MaxInt, 9, x), vote(5, 9, x)}, {vote(math.MinInt, 9, x), vote(-1, 9, api.Cmd{Kind: -7})}}, []api.Vote{vote(math.MinInt, 9, x), vote(-1, 9, api.Cmd{Kind: -7}), vote(5, 9, x), vote(math.MaxInt, 9, x)}},
	} {
		was := make([][]api.Vote, len(c.l))
		for i, votes := range c.l {
			was[i] = slices.Clone(votes)
		}
		if got := accept.Best(c.l...); !slices.Equal(got, c.want) {
			t.Error(c.l, "is", got, "want", c.want)
		}
		if !slices.EqualFunc(c.l, was, slices.Equal) {
			t.Error("an argument was changed", c.l, was)
		}
	}
}

// P11.3: of many lists: found here slot by slot.
func TestBestOfMany(t *testing.T) {
	random := rand.New(rand.NewSource(113))
	for range manyRandoms {
		lists := make([][]api.Vote, random.Intn(6))
		for i := range lists {
			for range random.Intn(8) {
				lists[i] = append(lists[i], vote(random.Intn(6), uint64(9+random.Intn(4)), remove(1+random.Intn(24))))
			}
		}
		var want []api.Vote
		for slot := range 6 {
			if v, ok := bestOf(slot, lists); ok {
				want = append(want, v)
			}
		}
		if got := accept.Best(lists...); !slices.Equal(got, want) {
			t.Fatal(lists, "is", got, "want", want)
		}
	}
}

// bestOf goes down the ballots, and takes the first vote that it meets.
func bestOf(slot int, lists [][]api.Vote) (api.Vote, bool) {
	for b := uint64(13); b >= 9; b-- {
		for _, votes := range lists {
			for _, v := range votes {
				if v.Slot == slot && v.Ballot == b {
					return v, true
				}
			}
		}
	}
	return api.Vote{}, false
}

// P11.4: whatever is asked, the promised ballot never decreases, nothing below it is accepted, and a vote changes only by a ballot that is not below its own.
func TestPromisesHold(t *testing.T) {
	random := rand.New(rand.NewSource(114))
	for range 200 {
		a := accept.New()
		promised, known := uint64(0), map[int]api.Vote{}
		for range 60 {
			b, slot, c := uint64(random.Intn(60)), random.Intn(7)-1, remove(1+random.Intn(25))
			accepted := false
			e := api.OK
			if random.Intn(2) == 0 {
				_, e = a.Prepare(b, slot)
			} else {
				e = a.Accept(b, slot, c)
				accepted = e == api.OK
			}
			if got := a.Promised(); got < promised || e == api.OK && (got != b || b < promised) || e != api.OK && got != promised {
				t.Fatal(b, slot, c, "with", promised, "is", int(e), "and", got)
			}
			promised = a.Promised()
			for at := range 7 {
				checkVote(t, a, known, at, b, accepted && at == slot)
			}
		}
	}
}

// checkVote holds the vote of a slot against what was known of it, and keeps it.
func checkVote(t *testing.T, a *accept.Acceptor, known map[int]api.Vote, slot int, b uint64, accepted bool) {
	t.Helper()
	was, had := known[slot]
	v, has := a.Vote(slot)
	switch {
	case accepted && (!has || v.Ballot != b || b < was.Ballot):
		t.Fatal("the vote of", slot, "by", b, "is", v, has, "was", was)
	case !accepted && (has != had || v != was):
		t.Fatal("the vote of", slot, "became", v, has, "was", was)
	case has && v.Ballot > a.Promised():
		t.Fatal("the vote", v, "is above what was promised")
	}
	if has {
		known[slot] = v
	}
}

// P11.1, P11.2: there is no acceptor.
func TestNil(t *testing.T) {
	var a *accept.Acceptor
	for _, slot := range []int{-1, 0, 512, 513, math.MinInt, math.MaxInt} {
		for _, b := range []uint64{0, 9, math.MaxUint64} {
			if l, e := a.Prepare(b, slot); len(l) != 0 || e != api.ErrNil {
				t.Error("prepare", l, int(e))
			}
			if e := a.Accept(b, slot, api.Cmd{}); e != api.ErrNil {
				t.Error("accept", int(e))
			}
			if e := a.Accept(b, slot, api.Cmd{Kind: 9}); e != api.ErrNil {
				t.Error("accept", int(e))
			}
		}
		if v, ok := a.Vote(slot); v != (api.Vote{}) || ok {
			t.Error("vote", v, ok)
		}
		if l := a.Votes(slot); len(l) != 0 {
			t.Error("votes", l)
		}
	}
	if a.Promised() != 0 || a.Len() != 0 {
		t.Error(a.Promised(), a.Len())
	}
}
