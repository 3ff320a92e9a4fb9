package master

import (
	"slices"

	"catenary/api"
	"catenary/conf"
)

// send sends the letter to these, one by one. One to the master itself is processed at once: it is not among what is returned, but what comes of it is.
func (m *Master) send(l api.Letter, to ...int) []api.Letter {
	var sent []api.Letter
	for _, address := range to {
		l.From, l.To = m.Address(), address
		if address == m.Address() {
			sent = append(sent, m.Take(l)...)
		} else {
			sent = append(sent, l)
		}
	}
	return sent
}

// sendAccepts sends an LAccept of each proposal to those that recipients names.
func (m *Master) sendAccepts(proposals []api.Vote, recipients func() []int) []api.Letter {
	var sent []api.Letter
	for _, v := range proposals {
		sent = append(sent, m.send(api.Letter{Kind: api.LAccept, Ballot: v.Ballot, Slot: v.Slot, Cmd: v.Cmd}, recipients()...)...)
	}
	return sent
}

// sendConf sends the configuration, a copy of its own to each.
func (m *Master) sendConf(c api.Conf, to ...int) []api.Letter {
	var sent []api.Letter
	for _, address := range to {
		own := conf.Copy([]api.Conf{c})
		sent = append(sent, m.send(api.Letter{Kind: api.LConfig, Conf: own[0]}, address)...)
	}
	return sent
}

// propose lets the leader propose the command, and sends it to all if it does.
func (m *Master) propose(c api.Cmd) []api.Letter {
	v, e := m.leader.Propose(c)
	if e != api.OK {
		return nil
	}
	return m.sendAccepts([]api.Vote{v}, m.all)
}

// sendRefuse sends the ballot that was promised to one that came with a lesser one.
func (m *Master) sendRefuse(to int) []api.Letter {
	return m.send(api.Letter{Kind: api.LRefuse, Ballot: m.Promised()}, to)
}

// others are the addresses of all other masters, in increasing order.
func (m *Master) others() []int {
	var l []int
	for i := range m.masters {
		if address := api.Masters + 1 + i; address != m.Address() {
			l = append(l, address)
		}
	}
	return l
}

// all are the addresses of all other masters, and then the master's own one.
func (m *Master) all() []int {
	return append(m.others(), m.Address())
}

// members are the nodes that a configuration concerns: its Nodes, in order, and its Join.
func members(c api.Conf) []int {
	l := slices.Clone(c.Nodes)
	if c.Join != 0 {
		l = append(l, c.Join)
	}
	return l
}
