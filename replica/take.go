package replica

import (
	"math"

	"catenary/api"
	"catenary/sess"
	"catenary/store"
	"catenary/update"
	"catenary/window"
)

// effectOf returns what an admitted letter of that kind does here; nil: nothing.
func (x *Replica) effectOf(kind int) func(api.Letter) []api.Letter {
	switch kind {
	case api.LWrite:
		return x.takeWrite
	case api.LPush:
		return x.takePush
	case api.LPart:
		return x.takePart
	case api.LAck:
		return x.takeAck
	}
	return nil
}

func (x *Replica) takeWrite(l api.Letter) []api.Letter {
	if !x.open {
		return nil
	}
	u := l.Updates[0] // a valid LWrite has one
	switch x.store.Judge(u.Client, u.Num) {
	case sess.Again:
		if row, ok := x.store.Row(u.Client); ok && row.Seq <= x.Done() {
			return []api.Letter{x.wrote(row)}
		}
	case sess.Fresh:
		if x.window.Room() {
			return x.write(u)
		}
	}
	return nil
}

// write executes a request of a client as the next update of the chain.
func (x *Replica) write(u api.Update) []api.Letter {
	u.Seq = x.End() + 1
	x.execute(u)
	var sent []api.Letter
	if x.role.Tail {
		sent = x.finish(x.End())
	}
	return append(sent, x.passOn()...)
}

func (x *Replica) takePush(l api.Letter) []api.Letter {
	fit := update.Fits(l.Updates, x.End())
	for _, u := range fit {
		x.execute(u)
	}
	var sent []api.Letter
	if x.role.Tail || x.role.Joins {
		sent = x.finish(x.End())
	}
	if x.role.Tail && x.conf.Fresh && x.End() >= l.Done {
		x.open = true
	}
	sent = append(sent, x.acknowledge()...)
	if len(fit) > 0 && x.succ.known {
		sent = append(sent, x.passOn()...)
	}
	return sent
}

func (x *Replica) takePart(l api.Letter) []api.Letter {
	if !x.open {
		x.receive(l)
	}
	return x.acknowledge()
}

// receive takes in the part of a picture. If it completes one that goes further than the store, what is in that becomes the store.
func (x *Replica) receive(l api.Letter) {
	parts := 0
	if l.Num <= math.MaxInt {
		parts = int(l.Num)
	}
	b, complete := x.in.Take(l.Seq, l.Slot, parts, l.Data)
	if !complete {
		return
	}
	s, e := store.Load(b)
	if e != api.OK || s.End() != l.Seq || s.End() <= x.End() {
		return
	}
	x.store, x.window = s, window.New(s.End())
}

func (x *Replica) takeAck(l api.Letter) []api.Letter {
	before := x.succ
	x.succ.known, x.succ.got = true, max(before.got, l.Seq)
	x.want(l.Num, l.Slot)
	// This is asked before anything is done, as updates that are done may fall out of the window.
	_, has := x.window.From(x.succ.got, 0)
	if has {
		x.succ.out = nil
	}
	var sent []api.Letter
	if x.isSuccIn() {
		sent = x.finish(l.Done)
	}
	advanced := x.succ.got > before.got && x.succ.got < x.End()
	if advanced || !has || !before.known {
		sent = append(sent, x.passOn()...)
	}
	return sent
}

// want notes which part of the outgoing picture Succ wants, if it is this picture of which Succ tells.
func (x *Replica) want(at uint64, part int) {
	out := x.succ.out
	if out == nil || at != out.At() {
		return
	}
	x.succ.part = 0
	if part < out.Parts() { // a slot is never below 0
		x.succ.part = part
	}
}

// execute applies the update, which is the next one.
func (x *Replica) execute(u api.Update) {
	x.store.Apply(u) // there is no error here that Add does not return, too: both take the same next update
	x.window.Add(u)
}
