package master_test

import (
	"math"
	"testing"

	"catenary/api"
	"catenary/lead"
	"catenary/master"
)

const lastRound = 8 * (1<<60 - 1) // and the master

// ticksToStart counts how many ticks it takes until a master is not idle any more.
func ticksToStart(m *master.Master) int {
	for n := range 100 {
		if m.State() != lead.Idle {
			return n
		}
		m.Tick(nil)
	}
	return -1
}

// P14.1: a single master leads at its seventh tick, and sends nothing by that.
func TestSingleMaster(t *testing.T) {
	m := newMaster(t, 1, 1, 2, 2, []api.Conf{of(0, 1, 1, 2)})
	tick(t, m, 6)
	mustBe(t, m, lead.Idle, 0, 0)
	tick(t, m, 1)
	mustBe(t, m, lead.Leading, 9, 9)
	mustSend(t, m, m.Tick(nil), "config 101>1: chain 0 epoch 1: 1 2", "config 101>2: chain 0 epoch 1: 1 2")
}

// P14.1: an idle master starts when it was quiet for more than 3 ticks and 3 times its number.
func TestStart(t *testing.T) {
	wants := [][]string{
		{"prepare 101>102 by 9 at 0", "prepare 101>103 by 9 at 0", "prepare 101>104 by 9 at 0", "prepare 101>105 by 9 at 0"},
		{"prepare 102>101 by 10 at 0", "prepare 102>103 by 10 at 0", "prepare 102>104 by 10 at 0", "prepare 102>105 by 10 at 0"},
		{"prepare 103>101 by 11 at 0", "prepare 103>102 by 11 at 0", "prepare 103>104 by 11 at 0", "prepare 103>105 by 11 at 0"},
		{"prepare 104>101 by 12 at 0", "prepare 104>102 by 12 at 0", "prepare 104>103 by 12 at 0", "prepare 104>105 by 12 at 0"},
		{"prepare 105>101 by 13 at 0", "prepare 105>102 by 13 at 0", "prepare 105>103 by 13 at 0", "prepare 105>104 by 13 at 0"},
	}
	for i, want := range wants {
		m := newMaster(t, i+1, 5, 5, 2, begun())
		tick(t, m, 3+3*(i+1))
		mustBe(t, m, lead.Idle, 0, 0)
		mustSend(t, m, m.Tick(nil), want...)
		mustBe(t, m, lead.Preparing, m.Ballot(), m.Ballot())
	}
}

// P14.1: it starts above what it promised, from Next of its log.
func TestStartAbove(t *testing.T) {
	m := follower(t)
	m.Take(chosen(101, 102, 2, api.Cmd{}))
	m.Take(prepare(103, 102, 35, 0))
	tick(t, m, 9)
	mustSend(t, m, m.Tick(nil), "prepare 102>101 by 42 at 1", "prepare 102>103 by 42 at 1")
	mustBe(t, m, lead.Preparing, 42, 42)
	mustSend(t, m, m.Take(refuse(103, 102, 51))) // it is above its own ballot, but not promised
	tick(t, m, 9)
	mustSend(t, m, m.Tick(nil), "prepare 102>101 by 50 at 1", "prepare 102>103 by 50 at 1")
	mustBe(t, m, lead.Preparing, 50, 50)
}

// P14.1: it sends nothing when no ballot is left.
func TestStartFull(t *testing.T) {
	m := newMaster(t, 2, 3, 5, 2, begun())
	mustSend(t, m, m.Take(prepare(103, 102, lastRound+3, 0)), "promise 102>103 by 9223372036854775803 at 0")
	tick(t, m, 40)
	mustBe(t, m, lead.Idle, 0, lastRound+3)

	m = newMaster(t, 3, 3, 5, 2, begun()) // one is left
	m.Take(prepare(102, 103, lastRound+2, 512))
	tick(t, m, 12)
	mustSend(t, m, m.Tick(nil), "prepare 103>101 by 9223372036854775803 at 0", "prepare 103>102 by 9223372036854775803 at 0")
}

// P14.1: it is not quiet after an LPrepare or an LAccept with OK, and an LBeat that is not below what was promised; after anything else it is as quiet as before.
func TestQuiet(t *testing.T) {
	for _, l := range []api.Letter{
		prepare(101, 102, 17, 3), prepare(103, 102, 19, 0), accept(101, 102, 17, 7, api.Cmd{}), accept(101, 102, 25, 0, api.Cmd{}), beat(101, 102, 17, 0), beat(103, 102, 19, 9), beat(101, 102, lastRound+1, 0),
	} {
		m := follower(t)
		tick(t, m, 8)
		m.Take(l)
		if n := ticksToStart(m); n != 10 {
			t.Error(text(l), "lets it start after", n)
		}
	}
	for _, l := range []api.Letter{
		prepare(101, 102, 9, 0), accept(101, 102, 9, 1, api.Cmd{}), accept(101, 102, 25, 512, api.Cmd{}), beat(101, 102, 9, 0), beat(103, 102, 11, 512), promise(101, 102, 17, 0), accepted(101, 102, 17, 0),
		chosen(101, 102, 1, cmd(api.Append, 0, 2, 5)), want(101, 102, 0), refuse(101, 102, 25), report(1, 102, cmd(api.Append, 0, 2, 5)), locate(1, 102, 0),
		beat(104, 102, 25, 0), prepare(101, 103, 25, 0), {}, {Kind: api.LConfig, From: 101, To: 102, Conf: of(0, 3, 2)},
	} {
		m := follower(t)
		tick(t, m, 8)
		m.Take(l)
		if n := ticksToStart(m); n != 2 {
			t.Error(text(l), "lets it start after", n)
		}
	}
}

// P14.1: while it prepares it asks the others again, every four ticks, from where it began; the count begins anew with each ballot.
func TestPreparing(t *testing.T) {
	m := newMaster(t, 1, 3, 5, 2, begun())
	m.Take(chosen(102, 101, 0, api.Cmd{}))
	if n := ticksToStart(m); n != 7 {
		t.Error("it starts after", n)
	}
	m.Take(chosen(102, 101, 1, api.Cmd{})) // it still prepares from where it began
	for range 3 {
		tick(t, m, 3)
		mustSend(t, m, m.Tick(nil), "prepare 101>102 by 9 at 1", "prepare 101>103 by 9 at 1")
	}
	tick(t, m, 2)
	m.Take(beat(102, 101, 10, 0))
	mustBe(t, m, lead.Idle, 9, 9)
	tick(t, m, 6)
	mustSend(t, m, m.Tick(nil), "prepare 101>102 by 17 at 2", "prepare 101>103 by 17 at 2")
	for range 2 {
		tick(t, m, 3)
		mustSend(t, m, m.Tick(nil), "prepare 101>102 by 17 at 2", "prepare 101>103 by 17 at 2")
	}
}

// P14.1: it is not quiet while it prepares or leads: when it is refused, it waits as long as at first.
func TestQuietWhenRefused(t *testing.T) {
	m := newMaster(t, 2, 3, 5, 2, begun())
	ticksToStart(m)
	for range 20 {
		m.Tick(nil)
	}
	m.Take(refuse(101, 102, 17))
	if n := ticksToStart(m); n != 10 {
		t.Error("it starts after", n)
	}
	mustSend(t, m, m.Take(promise(101, 102, 18, 0)))
	mustBe(t, m, lead.Leading, 18, 18)
	for range 20 {
		m.Tick(nil)
	}
	mustSend(t, m, m.Take(refuse(101, 102, 25)))
	if n := ticksToStart(m); n != 10 {
		t.Error("it starts after", n)
	}
	mustBe(t, m, lead.Preparing, 26, 26)
}

// P14.1: one that leads sends its beat, its proposals, and one configuration a tick.
func TestLeading(t *testing.T) {
	m := leading(t)
	mustSend(t, m, m.Tick(nil), "beat 101>102 by 9 at 0", "beat 101>103 by 9 at 0", "config 101>1: chain 0 epoch 1: 1 2", "config 101>2: chain 0 epoch 1: 1 2") // the eighth tick
	m.Take(report(1, 101, cmd(api.Append, 1, 1, 5)))
	m.Take(report(1, 101, cmd(api.Remove, 0, 1, 2)))
	mustSend(t, m, m.Tick(nil), "beat 101>102 by 9 at 0", "beat 101>103 by 9 at 0",
		"accept 101>102 by 9 at 0: append 1 1 5", "accept 101>103 by 9 at 0: append 1 1 5", "accept 101>102 by 9 at 1: remove 0 1 2", "accept 101>103 by 9 at 1: remove 0 1 2",
		"config 101>3: chain 1 epoch 1: 3 4", "config 101>4: chain 1 epoch 1: 3 4")
	m.Take(accepted(103, 101, 9, 0))
	mustSend(t, m, m.Tick(nil), "beat 101>102 by 9 at 1", "beat 101>103 by 9 at 1",
		"accept 101>102 by 9 at 1: remove 0 1 2", "accept 101>103 by 9 at 1: remove 0 1 2", "config 101>1: chain 0 epoch 1: 1 2", "config 101>2: chain 0 epoch 1: 1 2")
	mustSend(t, m, m.Tick(nil), "beat 101>102 by 9 at 1", "beat 101>103 by 9 at 1",
		"accept 101>102 by 9 at 1: remove 0 1 2", "accept 101>103 by 9 at 1: remove 0 1 2",
		"config 101>3: chain 1 epoch 2: 3 4 +5", "config 101>4: chain 1 epoch 2: 3 4 +5", "config 101>5: chain 1 epoch 2: 3 4 +5")
	mustBe(t, m, lead.Leading, 9, 9)
}

// P14.1: the ticks choose the chain, of as many as there are, from the very first tick on.
func TestConfigOfTick(t *testing.T) {
	l := []api.Conf{of(0, 1, 1), of(1, 1, 2), of(2, 1, 3)}
	m := newMaster(t, 1, 1, 3, 1, l)
	tick(t, m, 7)
	for n := 8; n < 20; n++ {
		mustSend(t, m, m.Tick(nil), []string{"config 101>1: chain 0 epoch 1: 1", "config 101>2: chain 1 epoch 1: 2", "config 101>3: chain 2 epoch 1: 3"}[n%3])
	}
}

// leadingOf returns the first one of three masters, which leads with the ballot 9 after seven ticks; the votes come with the other master's promise.
func leadingOf(t *testing.T, nodes, per int, l []api.Conf, votes ...api.Vote) *master.Master {
	t.Helper()
	m := newMaster(t, 1, 3, nodes, per, l)
	if n := ticksToStart(m); n != 7 {
		t.Error("it starts after", n)
	}
	m.Take(promise(102, 101, 9, 0, votes...))
	mustBe(t, m, lead.Leading, 9, 9)
	return m
}

// P14.1: chains with fewer nodes than they shall have get the least one that is free, another one at each tick, up to MaxOpen proposals.
func TestExtend(t *testing.T) {
	m := leadingOf(t, 24, 3, begun())
	mustSend(t, m, m.Tick(nil), "beat 101>102 by 9 at 0", "beat 101>103 by 9 at 0", "config 101>1: chain 0 epoch 1: 1 2", "config 101>2: chain 0 epoch 1: 1 2",
		"accept 101>102 by 9 at 0: append 0 1 5", "accept 101>103 by 9 at 0: append 0 1 5", "accept 101>102 by 9 at 1: append 1 1 6", "accept 101>103 by 9 at 1: append 1 1 6")
	mustSend(t, m, m.Tick(nil), "beat 101>102 by 9 at 0", "beat 101>103 by 9 at 0",
		"accept 101>102 by 9 at 0: append 0 1 5", "accept 101>103 by 9 at 0: append 0 1 5", "accept 101>102 by 9 at 1: append 1 1 6", "accept 101>103 by 9 at 1: append 1 1 6",
		"config 101>3: chain 1 epoch 1: 3 4", "config 101>4: chain 1 epoch 1: 3 4",
		"accept 101>102 by 9 at 2: append 0 1 7", "accept 101>103 by 9 at 2: append 0 1 7", "accept 101>102 by 9 at 3: append 1 1 8", "accept 101>103 by 9 at 3: append 1 1 8")
	for _, want := range []int{16, 20, 20, 20} { // 2 beats, 2 configurations, 2 letters a proposal
		if sent := m.Tick(nil); len(sent) != want {
			t.Error("sent are", len(sent), "want", want)
		}
	}
	mustSend(t, m, m.Take(accepted(102, 101, 9, 7)), "chosen 101>102 at 7: append 1 1 12", "chosen 101>103 at 7: append 1 1 12")
	if sent := m.Tick(nil); len(sent) != 20 || text(sent[19]) != "accept 101>103 by 9 at 8: append 0 1 12" {
		t.Error(len(sent), text(sent[len(sent)-1]))
	}
}

// P14.1: only chains without a Join, not Fresh, and with too few nodes get one; and only nodes that there are, and that are not down, and in no configuration.
func TestExtendWhich(t *testing.T) {
	joined := api.Conf{Chain: 0, Epoch: 4, Nodes: []int{1}, Join: 5}
	fresh := api.Conf{Chain: 1, Epoch: 7, Nodes: []int{3, 8}, Fresh: true}
	l := []api.Conf{joined, fresh, of(2, 9, 2, 10, 12), of(3, 1<<40, 11)}
	for _, c := range []struct {
		nodes, per int
		down       []int
		want       []string
	}{
		{24, 3, nil, []string{"3 1099511627776 4"}},
		{24, 1, nil, nil},
		{24, 2, nil, []string{"3 1099511627776 4"}},
		{24, 4, nil, []string{"2 9 4", "3 1099511627776 6"}},
		{24, 4, []int{4}, []string{"2 9 6", "3 1099511627776 7"}},
		{24, 4, []int{7, 4, 6, 4, 9, 1, 0, -1, 99, math.MinInt, math.MaxInt}, []string{"2 9 13", "3 1099511627776 14"}},
		{4, 4, nil, []string{"2 9 4"}},
		{3, 4, nil, nil},
		{5, 4, []int{4}, nil},
		{6, 4, []int{4}, []string{"2 9 6"}},
		{13, 3, []int{4, 6, 7, 9}, []string{"3 1099511627776 13"}},
		{12, 3, []int{4, 6, 7, 9}, nil},
		{24, 5, []int{4, 6, 7, 9, 13, 14, 15, 16, 17, 18, 19, 20, 21, 22, 23}, []string{"2 9 24"}},
	} {
		m := leadingOf(t, c.nodes, c.per, l)
		want := []string{"beat 101>102 by 9 at 0", "beat 101>103 by 9 at 0", "config 101>1: chain 0 epoch 4: 1 +5", "config 101>5: chain 0 epoch 4: 1 +5"}
		for slot, s := range c.want {
			at := string(rune('0' + slot))
			want = append(want, "accept 101>102 by 9 at "+at+": append "+s, "accept 101>103 by 9 at "+at+": append "+s)
		}
		mustSend(t, m, m.Tick(c.down), want...)
	}
}

// P14.1: a node of any proposal is not proposed, not even one of another command.
func TestExtendBesideProposals(t *testing.T) {
	m := leadingOf(t, 8, 2, []api.Conf{of(0, 1, 1)}, api.Vote{Slot: 1, Ballot: 2*8 + 2, Cmd: cmd(api.Settle, 3, 9, 2)})
	m.Take(report(1, 101, cmd(api.Append, 0, 1, 3)))
	mustSend(t, m, m.Tick(nil), "beat 101>102 by 9 at 0", "beat 101>103 by 9 at 0",
		"accept 101>102 by 9 at 0: noop", "accept 101>103 by 9 at 0: noop", "accept 101>102 by 9 at 1: settle 3 9 2", "accept 101>103 by 9 at 1: settle 3 9 2",
		"accept 101>102 by 9 at 2: append 0 1 3", "accept 101>103 by 9 at 2: append 0 1 3", "config 101>1: chain 0 epoch 1: 1",
		"accept 101>102 by 9 at 3: append 0 1 4", "accept 101>103 by 9 at 3: append 0 1 4")
}

// P14.1: with a single master each proposal is chosen at once: the chains behind see what came of it.
func TestExtendAtOnce(t *testing.T) {
	m := newMaster(t, 1, 1, 6, 3, begun())
	tick(t, m, 7)
	mustSend(t, m, m.Tick([]int{3}), "config 101>1: chain 0 epoch 1: 1 2", "config 101>2: chain 0 epoch 1: 1 2",
		"config 101>1: chain 0 epoch 2: 1 2 +5", "config 101>2: chain 0 epoch 2: 1 2 +5", "config 101>5: chain 0 epoch 2: 1 2 +5",
		"config 101>3: chain 1 epoch 2: 3 4 +6", "config 101>4: chain 1 epoch 2: 3 4 +6", "config 101>6: chain 1 epoch 2: 3 4 +6")
	mustSend(t, m, m.Tick([]int{3}), "config 101>3: chain 1 epoch 2: 3 4 +6", "config 101>4: chain 1 epoch 2: 3 4 +6", "config 101>6: chain 1 epoch 2: 3 4 +6")
	mustSend(t, m, m.Take(report(4, 101, cmd(api.Remove, 1, 2, 3))), "config 101>4: chain 1 epoch 3: 4 +6", "config 101>6: chain 1 epoch 3: 4 +6")
	mustSend(t, m, m.Take(report(4, 101, cmd(api.Promote, 1, 3, 6))), "config 101>4: chain 1 epoch 4: 4 6*", "config 101>6: chain 1 epoch 4: 4 6*")
	mustSend(t, m, m.Tick(nil), "config 101>1: chain 0 epoch 2: 1 2 +5", "config 101>2: chain 0 epoch 2: 1 2 +5", "config 101>5: chain 0 epoch 2: 1 2 +5")
	mustSend(t, m, m.Take(report(6, 101, cmd(api.Settle, 1, 4, 6))), "config 101>4: chain 1 epoch 5: 4 6", "config 101>6: chain 1 epoch 5: 4 6")
	mustSend(t, m, m.Tick(nil), "config 101>4: chain 1 epoch 5: 4 6", "config 101>6: chain 1 epoch 5: 4 6", // 3 is free again
		"config 101>4: chain 1 epoch 6: 4 6 +3", "config 101>6: chain 1 epoch 6: 4 6 +3", "config 101>3: chain 1 epoch 6: 4 6 +3")
	mustBe(t, m, lead.Leading, 9, 9, "chain 0 epoch 2: 1 2 +5", "chain 1 epoch 6: 4 6 +3")
}

// P14.1: down are those of one tick alone.
func TestDownIsNotKept(t *testing.T) {
	m := leadingOf(t, 6, 3, []api.Conf{of(0, 1, 1, 2)})
	if sent := m.Tick([]int{3, 4, 5, 6}); len(sent) != 4 {
		t.Error(len(sent))
	}
	if sent := m.Tick([]int{3, 4}); len(sent) != 6 || text(sent[4]) != "accept 101>102 by 9 at 0: append 0 1 5" {
		t.Error(len(sent))
	}
	if sent := m.Tick(nil); len(sent) != 8 || text(sent[6]) != "accept 101>102 by 9 at 1: append 0 1 3" {
		t.Error(len(sent))
	}
}

// P14.1: when all slots are known, a master still leads, and proposes nothing.
func TestNoSlotLeft(t *testing.T) {
	m := newMaster(t, 1, 1, 6, 3, begun())
	for slot := range api.MaxSlots {
		m.Take(chosen(101, 101, slot, api.Cmd{}))
	}
	tick(t, m, 7)
	mustBe(t, m, lead.Leading, 9, 9)
	mustSend(t, m, m.Take(report(1, 101, cmd(api.Remove, 0, 1, 1))))
	mustSend(t, m, m.Tick(nil), "config 101>1: chain 0 epoch 1: 1 2", "config 101>2: chain 0 epoch 1: 1 2")
}
