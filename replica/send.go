package replica

import (
	"catenary/api"
	"catenary/move"
	"catenary/sess"
)

// finish lets everything up to that number be done, and returns what is sent by this.
func (x *Replica) finish(upto uint64) []api.Letter {
	before := x.Done()
	var sent []api.Letter
	for _, u := range x.window.Reach(upto) {
		// The row of a client that has gone on belongs to a later update: that client waits no more for this one.
		if row, ok := x.store.Row(u.Client); ok && x.role.Head && row.Seq == u.Seq {
			sent = append(sent, x.wrote(row))
		}
	}
	x.store.Trim(x.Done())
	if x.Done() > before && x.role.In && !x.role.Head {
		sent = append(sent, x.acknowledge()...)
	}
	return sent
}

// acknowledge tells Pred, if there is one, what has arrived and is done, and which part of a picture is wanted.
func (x *Replica) acknowledge() []api.Letter {
	if x.role.Pred == 0 {
		return nil
	}
	at, part := x.in.Wants()
	return []api.Letter{x.fenced(api.Letter{Kind: api.LAck, To: x.role.Pred, Seq: x.End(), Done: x.Done(), Num: at, Slot: part})}
}

// passOn sends Succ, if there is one, what that lacks: updates as long as they are held, and otherwise a part of a picture.
func (x *Replica) passOn() []api.Letter {
	if x.role.Succ == 0 {
		return nil
	}
	if !x.succ.known {
		return []api.Letter{x.push(nil)} // the answer tells
	}
	if l, ok := x.window.From(x.succ.got, api.MaxBatch); ok {
		return []api.Letter{x.push(l)}
	}
	if x.succ.out == nil {
		x.succ.out, x.succ.part = move.New(x.End(), x.store.Picture()), 0
	}
	return []api.Letter{x.part()}
}

func (x *Replica) push(l []api.Update) api.Letter {
	return x.fenced(api.Letter{Kind: api.LPush, To: x.role.Succ, Seq: x.End(), Done: x.base, Updates: l})
}

func (x *Replica) part() api.Letter {
	out := x.succ.out
	b, _ := out.Part(x.succ.part) // there is that part
	return x.fenced(api.Letter{Kind: api.LPart, To: x.role.Succ, Seq: out.At(), Slot: x.succ.part, Num: uint64(out.Parts()), Data: b})
}

// wrote tells a client the result of its last request. It has no chain and no epoch, as it is true in all of them.
func (x *Replica) wrote(r sess.Row) api.Letter {
	return api.Letter{Kind: api.LWrote, From: x.node, To: api.Clients + r.Client, Num: r.Num, Code: r.Code, Ver: r.Ver}
}

// fenced makes l a letter of this node, of the chain and the epoch of its configuration.
func (x *Replica) fenced(l api.Letter) api.Letter {
	l.From, l.Chain, l.Epoch = x.node, x.conf.Chain, x.conf.Epoch
	return l
}
