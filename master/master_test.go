package master_test

import (
	"fmt"
	"math"
	"slices"
	"strings"
	"testing"

	"catenary/api"
	"catenary/cmds"
	"catenary/conf"
	"catenary/lead"
	"catenary/letter"
	"catenary/master"
)

func of(chain int, epoch uint64, nodes ...int) api.Conf {
	return api.Conf{Chain: chain, Epoch: epoch, Nodes: nodes}
}

// begun returns what two chains of two nodes begin with.
func begun() []api.Conf {
	return []api.Conf{of(0, 1, 1, 2), of(1, 1, 3, 4)}
}

func cmd(kind, chain int, epoch uint64, node int) api.Cmd {
	return api.Cmd{Kind: kind, Chain: chain, Epoch: epoch, Node: node}
}

// The letters that the tests send.

func prepare(from, to int, b uint64, slot int) api.Letter {
	return api.Letter{Kind: api.LPrepare, From: from, To: to, Ballot: b, Slot: slot}
}

func promise(from, to int, b uint64, slot int, votes ...api.Vote) api.Letter {
	return api.Letter{Kind: api.LPromise, From: from, To: to, Ballot: b, Slot: slot, Votes: votes}
}

func accept(from, to int, b uint64, slot int, c api.Cmd) api.Letter {
	return api.Letter{Kind: api.LAccept, From: from, To: to, Ballot: b, Slot: slot, Cmd: c}
}

func accepted(from, to int, b uint64, slot int) api.Letter {
	return api.Letter{Kind: api.LAccepted, From: from, To: to, Ballot: b, Slot: slot}
}

func chosen(from, to int, slot int, c api.Cmd) api.Letter {
	return api.Letter{Kind: api.LChosen, From: from, To: to, Slot: slot, Cmd: c}
}

func beat(from, to int, b uint64, slot int) api.Letter {
	return api.Letter{Kind: api.LBeat, From: from, To: to, Ballot: b, Slot: slot}
}

func want(from, to int, slot int) api.Letter {
	return api.Letter{Kind: api.LWant, From: from, To: to, Slot: slot}
}

func refuse(from, to int, b uint64) api.Letter {
	return api.Letter{Kind: api.LRefuse, From: from, To: to, Ballot: b}
}

func report(from, to int, c api.Cmd) api.Letter {
	return api.Letter{Kind: api.LReport, From: from, To: to, Cmd: c}
}

func locate(from, to, chain int) api.Letter {
	return api.Letter{Kind: api.LLocate, From: from, To: to, Chain: chain}
}

// text returns a letter as text: its kind, from whom and to whom, and its parts.
func text(l api.Letter) string {
	s := fmt.Sprintf("%s %d>%d", letter.Name(l.Kind), l.From, l.To)
	if l.Ballot != 0 {
		s += fmt.Sprintf(" by %d", l.Ballot)
	}
	if l.Kind < api.LRefuse {
		s += fmt.Sprintf(" at %d", l.Slot)
	}
	if l.Kind == api.LAccept || l.Kind == api.LChosen {
		c, _ := cmds.Text(l.Cmd)
		s += ": " + c
	}
	if l.Kind == api.LConfig {
		s += ": " + conf.Text(l.Conf)
	}
	for _, v := range l.Votes {
		c, _ := cmds.Text(v.Cmd)
		s += fmt.Sprintf("; %d at %d: %s", v.Ballot, v.Slot, c)
	}
	return s
}

// mustSend holds what a master sends against these texts; each letter must be valid, from the master, and to another one.
func mustSend(t *testing.T, m *master.Master, sent []api.Letter, want ...string) {
	t.Helper()
	var got []string
	for _, l := range sent {
		got = append(got, text(l))
		if e := letter.Check(l); e != api.OK || l.From != m.Address() || l.To == m.Address() {
			t.Error(l, "may not be sent by", m.Address(), int(e))
		}
	}
	if !slices.Equal(got, want) {
		t.Errorf("sent is\n%s\nwant\n%s", strings.Join(got, "\n"), strings.Join(want, "\n"))
	}
}

// mustBe holds a master's state, ballot, and promised ballot against these, and the configurations of its log.
func mustBe(t *testing.T, m *master.Master, state int, ballot, promised uint64, confs ...string) {
	t.Helper()
	if m.State() != state || m.Ballot() != ballot || m.Promised() != promised {
		t.Error("state", m.State(), "ballot", m.Ballot(), "promised", m.Promised(), "want", state, ballot, promised)
	}
	for chain, want := range confs {
		if c, ok := m.Log().Conf(chain); !ok || conf.Text(c) != want {
			t.Error("the configuration is", conf.Text(c), "want", want)
		}
	}
}

func newMaster(t *testing.T, me, masters, nodes, per int, l []api.Conf) *master.Master {
	t.Helper()
	m, e := master.New(me, masters, nodes, per, l)
	if m == nil || e != api.OK {
		t.Fatal(me, masters, nodes, per, l, "is", int(e))
	}
	return m
}

// tick lets a master tick so often; it must send nothing.
func tick(t *testing.T, m *master.Master, times int) {
	t.Helper()
	for range times {
		mustSend(t, m, m.Tick(nil))
	}
}

// leading returns the first one of three masters, which leads with the ballot 9, after seven ticks; there are two chains of two nodes, which is what they shall have, and five nodes.
func leading(t *testing.T) *master.Master {
	t.Helper()
	m := newMaster(t, 1, 3, 5, 2, begun())
	tick(t, m, 6)
	mustSend(t, m, m.Tick(nil), "prepare 101>102 by 9 at 0", "prepare 101>103 by 9 at 0")
	mustSend(t, m, m.Take(promise(103, 101, 9, 0)))
	mustBe(t, m, lead.Leading, 9, 9)
	return m
}

// follower returns the second one of three masters, which promised the ballot 17, and accepted with it a command that is known to be chosen.
func follower(t *testing.T) *master.Master {
	t.Helper()
	m := newMaster(t, 2, 3, 5, 2, begun())
	mustSend(t, m, m.Take(prepare(101, 102, 17, 0)), "promise 102>101 by 17 at 0")
	mustSend(t, m, m.Take(accept(101, 102, 17, 0, cmd(api.Remove, 0, 1, 1))), "accepted 102>101 by 17 at 0")
	mustSend(t, m, m.Take(chosen(101, 102, 0, cmd(api.Remove, 0, 1, 1))))
	mustBe(t, m, lead.Idle, 0, 17, "chain 0 epoch 2: 2", "chain 1 epoch 1: 3 4")
	return m
}

// P14.1: a master of some masters, idle, with a log of these configurations.
func TestNew(t *testing.T) {
	for masters := 1; masters <= 5; masters++ {
		for me := 1; me <= masters; me++ {
			m := newMaster(t, me, masters, 24, 5, begun())
			mustBe(t, m, lead.Idle, 0, 0, "chain 0 epoch 1: 1 2", "chain 1 epoch 1: 3 4")
			if m.Address() != 100+me || m.Log() == nil || m.Log() != m.Log() || m.Log().Next() != 0 {
				t.Error(me, "of", masters, "has", m.Address(), m.Log())
			}
		}
	}
	newMaster(t, 1, 1, 1, 1, []api.Conf{of(0, 1, 24)}) // the configurations may have nodes beyond
}

// P14.1: the errors in their order: of lead.New, then of the nodes, then of chosen.New.
func TestNewErrors(t *testing.T) {
	check := func(me, masters, nodes, per int, l []api.Conf) {
		t.Helper()
		if m, e := master.New(me, masters, nodes, per, l); m != nil || e != api.ErrArg {
			t.Error(me, masters, nodes, per, l, "is", m, int(e))
		}
	}
	for _, n := range []int{0, -1, math.MinInt, math.MaxInt, 1 << 32} {
		check(n, 3, 5, 2, begun())
		check(1, n, 5, 2, begun())
		check(1, 3, n, 2, begun())
		check(1, 3, 5, n, begun())
	}
	check(4, 3, 5, 2, begun())
	check(6, 6, 5, 2, begun())
	check(1, 6, 5, 2, begun())
	check(1, 3, 25, 2, begun())
	check(1, 3, 5, 6, begun())
	for _, l := range [][]api.Conf{nil, {}, {{}}, {of(1, 1, 1)}, {of(0, 0, 1)}, {of(0, 1, 1), of(1, 1, 1)}, {of(0, 1, 25)}, make([]api.Conf, 5)} {
		check(1, 3, 5, 2, l)
	}
}

// P14.1: the configurations with which it begins are not the caller's.
func TestNewCopies(t *testing.T) {
	l := begun()
	m := newMaster(t, 1, 1, 5, 2, l)
	l[0].Nodes[0], l[1] = 7, of(3, 9, 9)
	mustBe(t, m, lead.Idle, 0, 0, "chain 0 epoch 1: 1 2", "chain 1 epoch 1: 3 4")
}

// P14.1: letters that are not valid, that are to others, or that no master of these sent though only masters send such.
func TestTakeNothing(t *testing.T) {
	good := []api.Letter{
		prepare(101, 102, 25, 0), promise(101, 102, 25, 0), accept(101, 102, 25, 1, api.Cmd{}), accepted(101, 102, 25, 0), chosen(101, 102, 1, api.Cmd{}),
		beat(101, 102, 25, 5), beat(101, 102, 9, 0), want(101, 102, 0), refuse(101, 102, 25), report(101, 102, cmd(api.Remove, 1, 1, 3)), locate(101, 102, 0),
	}
	for _, l := range good {
		if letter.Check(l) != api.OK {
			t.Error(l, "is not valid")
		}
		for _, spoil := range []func(l *api.Letter){
			func(l *api.Letter) { l.To = 101 }, func(l *api.Letter) { l.To = 103 }, func(l *api.Letter) { l.To = 2 }, func(l *api.Letter) { l.To = 202 }, func(l *api.Letter) { l.To = 0 },
			func(l *api.Letter) { l.From = 0 }, func(l *api.Letter) { l.From = 106 }, func(l *api.Letter) { l.From = 25 }, func(l *api.Letter) { l.From = math.MinInt }, func(l *api.Letter) { l.From = math.MaxInt },
			func(l *api.Letter) { l.Kind = 0 }, func(l *api.Letter) { l.Kind = -l.Kind }, func(l *api.Letter) { l.Kind = 21 }, func(l *api.Letter) { l.Kind = math.MaxInt },
			func(l *api.Letter) { l.Key = 1 }, func(l *api.Letter) { l.Data = []byte{1} }, func(l *api.Letter) { l.Ballot ^= 7 }, func(l *api.Letter) { l.Slot = -1 }, func(l *api.Letter) { l.Slot = 513 }, func(l *api.Letter) { l.Cmd.Kind = 5 },
		} {
			m := follower(t)
			bad := l
			spoil(&bad)
			mustSend(t, m, m.Take(bad))
			mustFollow(t, m)
		}
		if l.Kind > api.LRefuse {
			continue
		}
		for _, from := range []int{104, 105, 1, 3, 24, 201, 203} {
			m := follower(t)
			bad := l
			bad.From = from
			mustSend(t, m, m.Take(bad))
			mustFollow(t, m)
		}
	}
}

// P14.1: neither has what would end leading, or be an answer to it.
func TestTakeNothingWhileLeading(t *testing.T) {
	for _, from := range []int{104, 105, 1, 3, 24, 201, 203} {
		m := leading(t)
		m.Take(report(1, 101, cmd(api.Remove, 0, 1, 1)))
		for _, l := range []api.Letter{
			refuse(from, 101, 17), beat(from, 101, 17, 5), beat(from, 101, 9, 5), prepare(from, 101, 17, 0), accept(from, 101, 17, 0, api.Cmd{}),
			accepted(from, 101, 9, 0), promise(from, 101, 9, 0), chosen(from, 101, 0, cmd(api.Remove, 0, 1, 1)), want(from, 101, 0),
		} {
			if letter.Check(l) != api.OK {
				t.Error(l, "is not valid")
			}
			mustSend(t, m, m.Take(l))
			mustBe(t, m, lead.Leading, 9, 9, "chain 0 epoch 1: 1 2", "chain 1 epoch 1: 3 4")
		}
		mustSend(t, m, m.Take(accepted(103, 101, 9, 0)), "chosen 101>102 at 0: remove 0 1 1", "chosen 101>103 at 0: remove 0 1 1", "config 101>2: chain 0 epoch 2: 2")
	}
}

// mustFollow holds that a master is what follower made of it.
func mustFollow(t *testing.T, m *master.Master) {
	t.Helper()
	mustBe(t, m, lead.Idle, 0, 17, "chain 0 epoch 2: 2", "chain 1 epoch 1: 3 4")
	if m.Log().Top() != 1 {
		t.Error("the log has", m.Log().Top())
	}
	mustSend(t, m, m.Take(prepare(103, 102, 19, 0)), "promise 102>103 by 19 at 0; 17 at 0: remove 0 1 1")
}

// P14.1: the other kinds have no effect, whoever they are from.
func TestTakeOthers(t *testing.T) {
	update := api.Update{Seq: 1, Client: 1, Num: 1, Kind: api.Write}
	asked := update
	asked.Seq = 0
	for _, l := range []api.Letter{
		{Kind: api.LConfig, Conf: of(0, 9, 5)}, {Kind: api.LPush, Epoch: 1, Updates: []api.Update{update}}, {Kind: api.LAck, Epoch: 1}, {Kind: api.LPart, Epoch: 1}, {Kind: api.LQuery, Epoch: 1},
		{Kind: api.LTold, Epoch: 1}, {Kind: api.LWrite, Epoch: 1, Updates: []api.Update{asked}}, {Kind: api.LWrote}, {Kind: api.LRead, Epoch: 1}, {Kind: api.LGot},
	} {
		for _, from := range []int{1, 101, 103, 201} {
			l.From, l.To = from, 102
			if letter.Check(l) != api.OK {
				t.Error(l, "is not valid")
			}
			m := follower(t)
			mustSend(t, m, m.Take(l))
			mustFollow(t, m)
		}
	}
}

// P14.1: LPrepare: what was promised and accepted, and what was promised already.
func TestPrepare(t *testing.T) {
	m := newMaster(t, 2, 3, 5, 2, begun())
	mustSend(t, m, m.Take(prepare(101, 102, 17, 512)), "promise 102>101 by 17 at 512")
	mustBe(t, m, lead.Idle, 0, 17)
	m.Take(accept(101, 102, 17, 3, api.Cmd{}))
	m.Take(accept(101, 102, 17, 1, cmd(api.Remove, 0, 1, 1)))
	mustSend(t, m, m.Take(prepare(101, 102, 17, 0)), "promise 102>101 by 17 at 0; 17 at 1: remove 0 1 1; 17 at 3: noop")
	mustSend(t, m, m.Take(prepare(103, 102, 19, 2)), "promise 102>103 by 19 at 2; 17 at 3: noop")
	mustSend(t, m, m.Take(prepare(101, 102, 17, 0)), "refuse 102>101 by 19")
	mustSend(t, m, m.Take(prepare(103, 102, 17, 0)), "refuse 102>103 by 19") // whoever's ballot it is
	mustBe(t, m, lead.Idle, 0, 19)
}

// P14.1: LAccept: accepted, or what was promised already; nothing for the slot behind the last one.
func TestAccept(t *testing.T) {
	m := newMaster(t, 2, 3, 5, 2, begun())
	mustSend(t, m, m.Take(accept(103, 102, 19, 511, api.Cmd{})), "accepted 102>103 by 19 at 511")
	mustBe(t, m, lead.Idle, 0, 19)
	mustSend(t, m, m.Take(accept(103, 102, 27, 512, api.Cmd{})))
	mustBe(t, m, lead.Idle, 0, 19)
	mustSend(t, m, m.Take(accept(101, 102, 17, 0, api.Cmd{})), "refuse 102>101 by 19")
	mustSend(t, m, m.Take(accept(101, 102, 25, 0, cmd(api.Append, 1, 7, 24))), "accepted 102>101 by 25 at 0")
	mustSend(t, m, m.Take(prepare(103, 102, 27, 0)), "promise 102>103 by 27 at 0; 25 at 0: append 1 7 24; 19 at 511: noop")
	if m.Log().Top() != 0 {
		t.Error("what is accepted is not chosen yet")
	}
}

// P14.1: a greater ballot of an LPrepare, an LAccept, an LBeat or an LRefuse ends leading and preparing; a lesser one doesn't.
func TestRefused(t *testing.T) {
	preparing := func(t *testing.T) *master.Master {
		m := newMaster(t, 1, 3, 5, 2, begun())
		tick(t, m, 6)
		m.Tick(nil)
		mustBe(t, m, lead.Preparing, 9, 9)
		return m
	}
	for _, c := range []struct {
		l        api.Letter
		promised uint64
		sent     []string
	}{
		{prepare(102, 101, 10, 4), 10, []string{"promise 101>102 by 10 at 4"}},
		{accept(102, 101, 10, 4, api.Cmd{}), 10, []string{"accepted 101>102 by 10 at 4"}},
		{accept(102, 101, 10, 512, api.Cmd{}), 9, nil}, // refused ahead of what is wrong
		{beat(102, 101, 10, 0), 9, nil},
		{beat(102, 101, 10, 4), 9, []string{"want 101>102 at 0"}},
		{refuse(102, 101, 10), 9, nil},
	} {
		for _, made := range []func(t *testing.T) *master.Master{leading, preparing} {
			m := made(t)
			mustSend(t, m, m.Take(c.l), c.sent...)
			mustBe(t, m, lead.Idle, 9, c.promised)
			mustSend(t, m, m.Take(promise(102, 101, 9, 0))) // too late
			mustSend(t, m, m.Take(report(1, 101, cmd(api.Remove, 0, 1, 2))))
		}
	}
	for _, made := range []func(t *testing.T) *master.Master{leading, preparing} {
		m := made(t)
		state := m.State()
		for _, l := range []api.Letter{prepare(102, 101, 9, 5), accept(102, 101, 9, 512, api.Cmd{}), beat(102, 101, 9, 0), refuse(102, 101, 9)} {
			m.Take(l)
			mustBe(t, m, state, 9, 9)
		}
	}
}

// P14.1: LPromise: by the one with which the master leads, an LAccept of each proposal to the others; what it sends to itself follows.
func TestPromise(t *testing.T) {
	m := newMaster(t, 2, 4, 9, 2, begun())
	m.Take(accept(101, 102, 17, 2, cmd(api.Append, 0, 2, 5)))
	for range 10 {
		m.Tick(nil)
	}
	mustBe(t, m, lead.Preparing, 18, 18)
	mustSend(t, m, m.Take(promise(103, 102, 10, 0)))
	mustSend(t, m, m.Take(promise(104, 102, 18, 0, api.Vote{Slot: 0, Ballot: 9, Cmd: cmd(api.Remove, 0, 1, 1)})))
	mustSend(t, m, m.Take(promise(104, 102, 18, 0)))
	mustBe(t, m, lead.Preparing, 18, 18)
	mustSend(t, m, m.Take(promise(101, 102, 18, 3, api.Vote{Slot: 2, Ballot: 17, Cmd: cmd(api.Append, 0, 2, 5)})),
		"accept 102>101 by 18 at 0: remove 0 1 1", "accept 102>103 by 18 at 0: remove 0 1 1", "accept 102>104 by 18 at 0: remove 0 1 1",
		"accept 102>101 by 18 at 1: noop", "accept 102>103 by 18 at 1: noop", "accept 102>104 by 18 at 1: noop",
		"accept 102>101 by 18 at 2: append 0 2 5", "accept 102>103 by 18 at 2: append 0 2 5", "accept 102>104 by 18 at 2: append 0 2 5")
	mustBe(t, m, lead.Leading, 18, 18)
	mustSend(t, m, m.Take(promise(103, 102, 18, 0)))
	mustSend(t, m, m.Take(prepare(103, 102, 19, 0)), "promise 102>103 by 19 at 0; 18 at 0: remove 0 1 1; 18 at 1: noop; 18 at 2: append 0 2 5") // it accepted them itself
}

// P14.1: LAccepted: by more than half, an LChosen to all; and by the own one the configurations go to whom they concern.
func TestAccepted(t *testing.T) {
	m := leading(t)
	mustSend(t, m, m.Take(report(7, 101, cmd(api.Append, 1, 1, 5))), "accept 101>102 by 9 at 0: append 1 1 5", "accept 101>103 by 9 at 0: append 1 1 5")
	mustSend(t, m, m.Take(report(2, 101, cmd(api.Remove, 0, 1, 1))), "accept 101>102 by 9 at 1: remove 0 1 1", "accept 101>103 by 9 at 1: remove 0 1 1")
	mustSend(t, m, m.Take(accepted(102, 101, 17, 0)))
	mustSend(t, m, m.Take(accepted(102, 101, 9, 2)))
	mustSend(t, m, m.Take(accepted(101, 101, 9, 1))) // it accepted it itself, already
	mustSend(t, m, m.Take(accepted(103, 101, 9, 1)), "chosen 101>102 at 1: remove 0 1 1", "chosen 101>103 at 1: remove 0 1 1")
	mustSend(t, m, m.Take(accepted(102, 101, 9, 1)))
	mustBe(t, m, lead.Leading, 9, 9, "chain 0 epoch 1: 1 2", "chain 1 epoch 1: 3 4")
	mustSend(t, m, m.Take(accepted(102, 101, 9, 0)), "chosen 101>102 at 0: append 1 1 5", "chosen 101>103 at 0: append 1 1 5",
		"config 101>3: chain 1 epoch 2: 3 4 +5", "config 101>4: chain 1 epoch 2: 3 4 +5", "config 101>5: chain 1 epoch 2: 3 4 +5", "config 101>2: chain 0 epoch 2: 2")
	mustBe(t, m, lead.Leading, 9, 9, "chain 0 epoch 2: 2", "chain 1 epoch 2: 3 4 +5")
	if m.Log().Next() != 2 || m.Log().Done() != 2 {
		t.Error(m.Log().Next(), m.Log().Done())
	}
}

// P14.1: LChosen: the log learns; only one that leads sends what results.
func TestChosen(t *testing.T) {
	m := leading(t)
	mustSend(t, m, m.Take(chosen(102, 101, 1, cmd(api.Append, 0, 2, 5))))
	mustSend(t, m, m.Take(chosen(103, 101, 0, cmd(api.Remove, 0, 1, 2))),
		"config 101>1: chain 0 epoch 2: 1", "config 101>1: chain 0 epoch 3: 1 +5", "config 101>5: chain 0 epoch 3: 1 +5")
	mustSend(t, m, m.Take(chosen(103, 101, 0, cmd(api.Remove, 0, 1, 2))))
	mustSend(t, m, m.Take(chosen(103, 101, 0, cmd(api.Remove, 0, 1, 1)))) // not what is known
	mustSend(t, m, m.Take(chosen(103, 101, 512, api.Cmd{})))
	mustSend(t, m, m.Take(chosen(103, 101, 2, api.Cmd{})))
	mustBe(t, m, lead.Leading, 9, 9, "chain 0 epoch 3: 1 +5", "chain 1 epoch 1: 3 4")

	m = follower(t)
	mustSend(t, m, m.Take(chosen(103, 102, 1, cmd(api.Append, 0, 2, 5))))
	mustBe(t, m, lead.Idle, 0, 17, "chain 0 epoch 3: 2 +5", "chain 1 epoch 1: 3 4")
}

// P14.1: LBeat: refused below what was promised, and nothing else then; otherwise what is lacking is wanted.
func TestBeat(t *testing.T) {
	m := follower(t)
	for slot, b := range []uint64{9, 10, 11, 12, 13} {
		mustSend(t, m, m.Take(beat(101, 102, b, slot)), "refuse 102>101 by 17")
	}
	mustSend(t, m, m.Take(beat(101, 102, 17, 0)))
	mustSend(t, m, m.Take(beat(101, 102, 17, 1)))
	mustSend(t, m, m.Take(beat(101, 102, 17, 2)), "want 102>101 at 1")
	mustSend(t, m, m.Take(beat(103, 102, 19, 512)), "want 102>103 at 1")
	mustBe(t, m, lead.Idle, 0, 17) // a beat promises nothing
	m.Take(chosen(101, 102, 5, api.Cmd{}))
	mustSend(t, m, m.Take(beat(101, 102, 17, 5)), "want 102>101 at 1") // the first one that is lacking
}

// P14.1: LWant: those of eight slots that are known.
func TestWant(t *testing.T) {
	m := follower(t)
	for _, slot := range []int{2, 3, 7, 8, 9, 505, 511} {
		m.Take(chosen(101, 102, slot, cmd(api.Settle, 3, 9, 1+slot%24)))
	}
	said := func(slot int) string {
		return fmt.Sprintf("chosen 102>103 at %d: settle 3 9 %d", slot, 1+slot%24)
	}
	mustSend(t, m, m.Take(want(103, 102, 0)), "chosen 102>103 at 0: remove 0 1 1", said(2), said(3), said(7))
	mustSend(t, m, m.Take(want(103, 102, 1)), said(2), said(3), said(7), said(8))
	mustSend(t, m, m.Take(want(103, 102, 3)), said(3), said(7), said(8), said(9))
	mustSend(t, m, m.Take(want(103, 102, 10)))
	mustSend(t, m, m.Take(want(103, 102, 504)), said(505), said(511))
	mustSend(t, m, m.Take(want(103, 102, 506)), said(511))
	mustSend(t, m, m.Take(want(103, 102, 512)))
}

// P14.1: LReport: one that leads proposes what is possible, and no Noop, whoever reports it.
func TestReport(t *testing.T) {
	m := leading(t)
	for slot, from := range []int{3, 102, 105, 201, 101} {
		c := cmd(api.Append, slot%2, 1, 5+slot)
		s, _ := cmds.Text(c)
		mustSend(t, m, m.Take(report(from, 101, c)), fmt.Sprintf("accept 101>102 by 9 at %d: %s", slot, s), fmt.Sprintf("accept 101>103 by 9 at %d: %s", slot, s))
		mustSend(t, m, m.Take(report(from, 101, c))) // it is one of its proposals already
	}
	for _, c := range []api.Cmd{{}, cmd(api.Remove, 0, 2, 1), cmd(api.Remove, 0, 1, 3), cmd(api.Append, 0, 1, 4), cmd(api.Append, 2, 1, 6), cmd(api.Promote, 0, 1, 5), cmd(api.Settle, 1, 1, 4)} {
		mustSend(t, m, m.Take(report(3, 101, c)))
	}
	for slot := 5; slot < 8; slot++ {
		if len(m.Take(report(3, 101, cmd(api.Append, 0, 1, 10+slot)))) != 2 {
			t.Error("not proposed at", slot)
		}
	}
	mustSend(t, m, m.Take(report(3, 101, cmd(api.Append, 0, 1, 20)))) // there are eight

	m = follower(t)
	mustSend(t, m, m.Take(report(3, 102, cmd(api.Remove, 1, 1, 3))))
	mustFollow(t, m)
}

// P14.1: LLocate: the configuration of a chain that there is, to anyone, whether the master leads or not.
func TestLocate(t *testing.T) {
	for _, m := range []*master.Master{leading(t), follower(t)} {
		for _, from := range []int{1, 24, 103, 105, 201, 206} {
			for chain := range 4 {
				var sent []string
				if c, ok := m.Log().Conf(chain); ok {
					sent = append(sent, fmt.Sprintf("config %d>%d: %s", m.Address(), from, conf.Text(c)))
				}
				mustSend(t, m, m.Take(locate(from, m.Address(), chain)), sent...)
			}
		}
	}
}

// P14.1: what is from the master itself is processed as anything else; what goes back to it is not sent, but processed.
func TestFromItself(t *testing.T) {
	m := newMaster(t, 1, 1, 5, 2, begun())
	mustSend(t, m, m.Take(locate(101, 101, 0)))
	mustSend(t, m, m.Take(prepare(101, 101, 17, 0)))
	mustSend(t, m, m.Take(prepare(101, 101, 9, 0)))
	mustSend(t, m, m.Take(accept(101, 101, 25, 3, api.Cmd{})))
	mustBe(t, m, lead.Idle, 0, 25)
	mustSend(t, m, m.Take(chosen(101, 101, 0, cmd(api.Remove, 0, 1, 1))))
	mustSend(t, m, m.Take(want(101, 101, 0)))
	mustSend(t, m, m.Take(beat(101, 101, 25, 512)))
	mustBe(t, m, lead.Idle, 0, 25, "chain 0 epoch 2: 2")

	m = leading(t)
	mustSend(t, m, m.Take(prepare(102, 101, 9, 0)), "promise 101>102 by 9 at 0")
	mustSend(t, m, m.Take(refuse(101, 101, 17)))
	mustBe(t, m, lead.Idle, 9, 9)
}

// P14.1, rule 5: what is handed in is neither changed nor kept, and no two letters share memory.
func TestLettersAreNew(t *testing.T) {
	m := newMaster(t, 1, 3, 5, 3, begun())
	for range 7 {
		m.Tick(nil)
	}
	votes := []api.Vote{{Slot: 0, Ballot: 9, Cmd: cmd(api.Append, 0, 1, 5)}, {Slot: 1, Ballot: 9, Cmd: api.Cmd{}}}
	was := slices.Clone(votes)
	m.Take(promise(103, 101, 9, 0, votes...))
	if !slices.Equal(votes, was) {
		t.Error("an argument was changed", votes)
	}
	votes[0], votes[1] = api.Vote{}, api.Vote{}
	sent := m.Take(accepted(102, 101, 9, 0))
	mustSend(t, m, sent, "chosen 101>102 at 0: append 0 1 5", "chosen 101>103 at 0: append 0 1 5",
		"config 101>1: chain 0 epoch 2: 1 2 +5", "config 101>2: chain 0 epoch 2: 1 2 +5", "config 101>5: chain 0 epoch 2: 1 2 +5")
	sent[2].Conf.Nodes[0], sent[4].Conf.Nodes[1] = 9, 9
	if conf.Text(sent[3].Conf) != "chain 0 epoch 2: 1 2 +5" {
		t.Error("two letters share memory", sent[3])
	}
	mustBe(t, m, lead.Leading, 9, 9, "chain 0 epoch 2: 1 2 +5")

	m.Take(accept(101, 101, 9, 4, api.Cmd{}))
	told := m.Take(prepare(102, 101, 10, 0))
	mustSend(t, m, told, "promise 101>102 by 10 at 0; 9 at 0: append 0 1 5; 9 at 1: noop; 9 at 4: noop")
	told[0].Votes[0] = api.Vote{}
	mustSend(t, m, m.Take(prepare(103, 101, 11, 0)), "promise 101>103 by 11 at 0; 9 at 0: append 0 1 5; 9 at 1: noop; 9 at 4: noop")

	located := m.Take(locate(1, 101, 0))
	located[0].Conf.Nodes[0] = 7
	mustBe(t, m, lead.Idle, 9, 11, "chain 0 epoch 2: 1 2 +5")

	down := []int{1, 5}
	m.Tick(down)
	if !slices.Equal(down, []int{1, 5}) {
		t.Error("an argument was changed", down)
	}
}

// P14.1: there is no master.
func TestNil(t *testing.T) {
	var m *master.Master
	for _, l := range []api.Letter{{}, locate(1, 101, 0), locate(1, 0, 0), prepare(101, 102, 9, 0)} {
		if sent := m.Take(l); len(sent) != 0 {
			t.Error(sent)
		}
	}
	if sent := m.Tick([]int{1}); len(sent) != 0 {
		t.Error(sent)
	}
	if m.Address() != 0 || m.Log() != nil || m.State() != 0 || m.Ballot() != 0 || m.Promised() != 0 {
		t.Error(m.Address(), m.Log(), m.State(), m.Ballot(), m.Promised())
	}
}
