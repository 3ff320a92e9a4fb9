package lead_test

import (
	"math/rand"
	"testing"

	"catenary/accept"
	"catenary/api"
	"catenary/lead"
)

// note is what one master sends to another one: it is delivered late, often, or never.
type note struct {
	kind     int
	from, to int
	ballot   uint64
	slot     int
	cmd      api.Cmd
	votes    []api.Vote
}

// parliament is some masters, each with a leader and an acceptor, and what is in transit.
type parliament struct {
	t         *testing.T
	random    *rand.Rand
	leaders   []*lead.Lead
	acceptors []*accept.Acceptor
	transit   []note
	chosen    map[int]api.Cmd
}

func newParliament(t *testing.T, random *rand.Rand, masters int) *parliament {
	p := &parliament{t: t, random: random, chosen: map[int]api.Cmd{}}
	for me := range masters {
		p.leaders = append(p.leaders, newLead(t, me+1, masters))
		p.acceptors = append(p.acceptors, accept.New())
	}
	return p
}

func (p *parliament) toAll(n note) {
	for to := range p.leaders {
		n.to = to
		p.transit = append(p.transit, n)
	}
}

func (p *parliament) acceptAll(from int, proposals []api.Vote) {
	for _, v := range proposals {
		p.toAll(note{kind: api.LAccept, from: from, ballot: v.Ballot, slot: v.Slot, cmd: v.Cmd})
	}
}

// step lets one master do something, or delivers something.
func (p *parliament) step() {
	who := p.random.Intn(len(p.leaders))
	x := p.leaders[who]
	switch at := p.random.Intn(100); {
	case at < 4:
		from := p.random.Intn(3)
		if b, e := x.Start(p.acceptors[who].Promised(), from); e == api.OK {
			p.toAll(note{kind: api.LPrepare, from: who, ballot: b, slot: from})
		}
	case at < 14:
		if v, e := x.Propose(remove(1 + p.random.Intn(24))); e == api.OK {
			p.acceptAll(who, []api.Vote{v})
		}
	case at < 17:
		p.acceptAll(who, x.Open())
	case len(p.transit) > 0:
		at := p.random.Intn(len(p.transit))
		n := p.transit[at]
		if p.random.Intn(5) > 0 { // one that stays comes again
			p.transit = append(p.transit[:at], p.transit[at+1:]...)
		}
		if p.random.Intn(5) > 0 { // one that does not come is lost
			p.deliver(n)
		}
	}
}

func (p *parliament) deliver(n note) {
	x, a := p.leaders[n.to], p.acceptors[n.to]
	back := note{from: n.to, to: n.from, ballot: n.ballot, slot: n.slot}
	switch n.kind {
	case api.LPrepare:
		if votes, e := a.Prepare(n.ballot, n.slot); e == api.OK {
			back.kind, back.votes = api.LPromise, votes
			p.transit = append(p.transit, back)
		}
	case api.LPromise:
		if proposals, ok := x.Promise(n.ballot, n.from+1, n.votes); ok {
			p.acceptAll(n.to, proposals)
		}
	case api.LAccept:
		if a.Accept(n.ballot, n.slot, n.cmd) == api.OK {
			back.kind = api.LAccepted
			p.transit = append(p.transit, back)
		}
	case api.LAccepted:
		if v, ok := x.Accepted(n.ballot, n.slot, n.from+1); ok {
			p.choose(v)
		}
	}
	if p.random.Intn(10) == 0 {
		x.Refuse(a.Promised())
	}
}

func (p *parliament) choose(v api.Vote) {
	if c, ok := p.chosen[v.Slot]; ok && c != v.Cmd {
		p.t.Fatal("for the slot", v.Slot, "were chosen", c, "and", v.Cmd)
	}
	p.chosen[v.Slot] = v.Cmd
}

// P13.6: whatever is lost, duplicated or delayed: for no slot two different commands are chosen.
func TestOneCommandASlot(t *testing.T) {
	random := rand.New(rand.NewSource(136))
	chosen, again := 0, 0
	for round := range 300 {
		p := newParliament(t, random, 1+round%5)
		for range 1500 {
			p.step()
		}
		chosen += len(p.chosen)
		for _, x := range p.leaders {
			if x.Ballot() > 16 {
				again++
			}
		}
	}
	if chosen < 1000 || again < 500 {
		t.Error("hardly anything happened:", chosen, again)
	}
}
