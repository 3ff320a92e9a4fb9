package master_test

import (
	"math/rand"
	"testing"

	"catenary/api"
	"catenary/conf"
	"catenary/lead"
	"catenary/master"
)

// council is some masters, and the letters in transit.
type council struct {
	t       *testing.T
	random  *rand.Rand
	masters []*master.Master // nil: it stopped
	transit []api.Letter
	lost    int // of a hundred letters
	told    map[int]api.Conf
}

func newCouncil(t *testing.T, random *rand.Rand, masters, lost int) *council {
	t.Helper()
	c := &council{t: t, random: random, lost: lost, told: map[int]api.Conf{}}
	l, _ := conf.Begin(2, 2)
	for me := range masters {
		c.masters = append(c.masters, newMaster(t, me+1, masters, 9, 3, l))
	}
	return c
}

// put puts letters into transit, some of them never and some twice; those to nodes are only looked at.
func (c *council) put(l []api.Letter) {
	for _, x := range l {
		switch at := c.random.Intn(100); {
		case x.Kind == api.LConfig:
			c.look(x.Conf)
		case at < c.lost:
		case at < 2*c.lost:
			c.transit = append(c.transit, x, x)
		default:
			c.transit = append(c.transit, x)
		}
	}
}

// look holds that all configurations of one epoch of a chain that are ever told are the same.
func (c *council) look(x api.Conf) {
	key := x.Chain<<16 + int(x.Epoch)
	if known, ok := c.told[key]; ok && !conf.Same(known, x) {
		c.t.Fatal("told are", conf.Text(known), "and", conf.Text(x))
	}
	c.told[key] = x
}

// step delivers a letter, lets a master tick, or lets a node report something.
func (c *council) step() {
	who := c.random.Intn(len(c.masters))
	m := c.masters[who]
	switch at := c.random.Intn(100); {
	case at < 12:
		c.put(m.Tick([]int{1 + c.random.Intn(9)}))
	case at < 20 && m != nil:
		x, _ := m.Log().Conf(c.random.Intn(2))
		node := x.Nodes[c.random.Intn(len(x.Nodes))]
		kind := api.Remove
		if x.Join != 0 {
			kind, node = api.Promote, x.Join
		} else if x.Fresh {
			kind, node = api.Settle, x.Nodes[len(x.Nodes)-1]
		}
		c.put(m.Take(report(node, 101+who, cmd(kind, x.Chain, x.Epoch, node))))
	case len(c.transit) > 0:
		i := c.random.Intn(len(c.transit))
		if c.random.Intn(3) > 0 { // as a rule the oldest ones come first
			i = 0
		}
		x := c.transit[i]
		c.transit = append(c.transit[:i], c.transit[i+1:]...)
		c.put(c.masters[x.To-101].Take(x))
	}
}

// depose lets all that lead but did not do so alone give up, as if they had been refused; another one may lead then, and find what they left.
func (c *council) depose() {
	for _, m := range c.masters {
		if len(c.masters) > 1 && m.State() != lead.Idle {
			c.put(m.Take(refuse(m.Address(), m.Address(), m.Ballot()+1)))
		}
	}
}

// check holds that no two logs know different commands for a slot, and that what one applied is a prefix of what another one applied.
func (c *council) check() {
	for slot := range api.MaxSlots {
		var known *api.Cmd
		for _, m := range c.masters {
			x, ok := m.Log().At(slot)
			if ok && known != nil && x != *known {
				c.t.Fatal("at", slot, "are", x, "and", *known)
			}
			if ok {
				known = &x
			}
		}
	}
	for _, m := range c.masters {
		for _, x := range m.Log().Confs() {
			c.look(x)
		}
	}
}

// P14.2: whatever is lost, duplicated or delayed: the logs don't contradict each other, and nor do the configurations that are told.
func TestLogsAgree(t *testing.T) {
	random := rand.New(rand.NewSource(142))
	done, ballots := 0, uint64(0)
	for round := range 60 {
		c := newCouncil(t, random, 1+round%5, round%4*8)
		for n := range 3000 {
			c.step()
			if n%100 == 0 {
				c.depose()
			}
		}
		c.check()
		for _, m := range c.masters {
			done += m.Log().Done()
			ballots += m.Ballot() / 8
		}
	}
	if done < 2000 || ballots < 300 {
		t.Error("hardly anything happened:", done, ballots)
	}
}

// P14.1, P14.2: if nothing is lost, one master leads, as long as more than half of them run, and what is reported is soon known to all.
func TestAllLearn(t *testing.T) {
	for masters := 1; masters <= 5; masters++ {
		c := newCouncil(t, rand.New(rand.NewSource(1)), masters, 0)
		for stopped := range (masters - 1) / 2 {
			c.masters[stopped] = nil
		}
		for range 60 {
			c.round()
		}
		leads := 0
		for _, m := range c.masters {
			if m.State() == lead.Leading {
				leads++
			}
			if m == nil {
				continue
			}
			x, _ := m.Log().Conf(0)
			if conf.Text(x) != "chain 0 epoch 2: 1 2 +5" {
				t.Error("of", masters, "the master", m.Address(), "has", conf.Text(x))
			}
		}
		if leads != 1 {
			t.Error("of", masters, "lead", leads)
		}
	}
}

// round delivers what is in transit, and lets each master tick.
func (c *council) round() {
	l := c.transit
	c.transit = nil
	for _, x := range l {
		c.put(c.masters[x.To-101].Take(x))
	}
	for _, m := range c.masters {
		c.put(m.Tick(nil))
	}
}
