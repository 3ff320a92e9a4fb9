package conf

import (
	"slices"

	"catenary/api"
)

// rule is what is particular to a kind of commands: whether one is possible in the chain's configuration now, which is one of l, and what it makes of that, but for the Epoch.
type rule struct {
	can func(l []api.Conf, now api.Conf, node int) api.Errno
	do  func(x *api.Conf, node int)
}

// ruleOf returns the rule of a kind that is no Noop.
func ruleOf(kind int) rule {
	rules := [...]rule{
		api.Remove:  {can: canRemove, do: remove},
		api.Append:  {can: canAppend, do: func(x *api.Conf, node int) { x.Join = node }},
		api.Promote: {can: canPromote, do: promote},
		api.Settle:  {can: canSettle, do: func(x *api.Conf, node int) { x.Fresh = false }},
	}
	return rules[kind]
}

func canRemove(l []api.Conf, now api.Conf, node int) api.Errno {
	if !slices.Contains(members(now), node) {
		return api.ErrNone
	}
	if !slices.ContainsFunc(Settled(now), func(other int) bool { return other != node }) {
		return api.ErrState
	}
	return api.OK
}

func canAppend(l []api.Conf, now api.Conf, node int) api.Errno {
	switch {
	case Used(l, node):
		return api.ErrThere
	case now.Join != 0 || now.Fresh:
		return api.ErrState
	case len(now.Nodes) >= api.MaxChain:
		return api.ErrFull
	}
	return api.OK
}

func canPromote(l []api.Conf, now api.Conf, node int) api.Errno {
	switch {
	case now.Join != node:
		return api.ErrNone
	case len(now.Nodes) >= api.MaxChain:
		return api.ErrFull
	}
	return api.OK
}

func canSettle(l []api.Conf, now api.Conf, node int) api.Errno {
	if !now.Fresh || !isLast(now, node) {
		return api.ErrNone
	}
	return api.OK
}

func remove(x *api.Conf, node int) {
	if x.Join == node {
		x.Join = 0
		return
	}
	x.Fresh = x.Fresh && !isLast(*x, node)
	x.Nodes = slices.DeleteFunc(x.Nodes, func(other int) bool { return other == node })
}

func promote(x *api.Conf, node int) {
	x.Nodes = append(x.Nodes, node)
	x.Fresh = true
	x.Join = 0
}
