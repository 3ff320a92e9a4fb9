package master

import (
	"slices"

	"catenary/api"
	"catenary/conf"
	"catenary/lead"
)

const (
	again       = 4 // every so many ticks of waiting for promises they are asked for again
	leastQuiet  = 3 // a master stays idle for so many ticks without a sign of a leader,
	quietFactor = 3 // and for so many times its number more, so that not all start at the same time
)

// Tick executes a tick, and returns what the master sends; these nodes are down.
func (m *Master) Tick(down []int) []api.Letter {
	if m == nil {
		return nil
	}
	m.ticks++
	switch m.State() {
	case lead.Leading:
		return m.tickLeading(down)
	case lead.Preparing:
		return m.tickPreparing()
	}
	return m.tickIdle()
}

// tickLeading repeats what may have been lost, and proposes nodes for chains that lack some.
func (m *Master) tickLeading(down []int) []api.Letter {
	sent := m.send(api.Letter{Kind: api.LBeat, Ballot: m.Ballot(), Slot: m.log.Next()}, m.others()...)
	sent = append(sent, m.sendAccepts(m.leader.Open(), m.others)...)
	confs := m.log.Confs()
	c := confs[m.ticks%len(confs)]
	sent = append(sent, m.sendConf(c, members(c)...)...)
	for chain := range confs {
		sent = append(sent, m.extend(chain, down)...)
	}
	return sent
}

func (m *Master) tickPreparing() []api.Letter {
	m.waited++
	if m.waited%again != 0 {
		return nil
	}
	return m.send(api.Letter{Kind: api.LPrepare, Ballot: m.Ballot(), Slot: m.leader.From()}, m.others()...)
}

func (m *Master) tickIdle() []api.Letter {
	m.quiet++
	if m.quiet <= leastQuiet+quietFactor*m.me {
		return nil
	}
	m.quiet, m.waited = 0, 0
	from := m.log.Next()
	b, e := m.leader.Start(m.Promised(), from)
	if e != api.OK {
		return nil
	}
	return m.send(api.Letter{Kind: api.LPrepare, Ballot: b, Slot: from}, m.all()...)
}

// extend proposes a node for the chain, if that has too few and may take one. It asks for the configurations anew: what was proposed for the chains ahead may have been chosen at once.
func (m *Master) extend(chain int, down []int) []api.Letter {
	c, _ := m.log.Conf(chain)
	if c.Join != 0 || c.Fresh || len(c.Nodes) >= m.per {
		return nil
	}
	node, ok := m.spare(down)
	if !ok {
		return nil
	}
	return m.propose(api.Cmd{Kind: api.Append, Chain: chain, Epoch: c.Epoch, Node: node})
}

// spare returns the least node that is not down, occurs in no configuration, and is that of no proposal.
func (m *Master) spare(down []int) (int, bool) {
	confs, proposals := m.log.Confs(), m.leader.Open()
	for i := range m.nodes {
		node := i + 1
		proposed := func(v api.Vote) bool { return v.Cmd.Node == node }
		if !slices.Contains(down, node) && !conf.Used(confs, node) && !slices.ContainsFunc(proposals, proposed) {
			return node, true
		}
	}
	return 0, false
}
