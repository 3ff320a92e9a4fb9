package server_test

import (
	"bytes"

	"catenary/api"
	"catenary/update"
)

// value is the last version of a block; its Ver is 0 if there is none.
type value struct {
	ver  uint64
	data []byte
}

// last returns the index of the commit that created the last version of the block, or -1, and that version.
func (w *cluster) last(key uint32) (int, value) {
	l := w.versions(key)
	for i := len(l) - 1; i > 0; i-- {
		if l[i].ver != l[i-1].ver {
			return i - 1, l[i]
		}
	}
	return -1, value{}
}

// versions returns the last version of the block at each moment: at the index n after n commits.
func (w *cluster) versions(key uint32) []value {
	l := []value{{}}
	for _, c := range w.commits {
		now := l[len(l)-1]
		if a := w.actOf(c); a != nil && a.op.Key == key {
			if _, ver, created := update.Outcome(asked(*a), now.ver, true); created {
				now = value{ver, a.op.Data}
			}
		}
		l = append(l, now)
	}
	return l
}

// actOf returns the operation that a commit executes.
func (w *cluster) actOf(c commit) *act {
	for i := range w.acts {
		if a := &w.acts[i]; a.client == c.client && a.num == c.num && a.op.Kind != api.Read {
			return a
		}
	}
	return nil
}

// asked returns the update that an operation asks for.
func asked(a act) api.Update {
	return api.Update{Client: a.client, Num: a.num, Kind: a.op.Kind, Key: a.op.Key, Ver: a.op.Ver, Data: a.op.Data}
}

// was reports whether this was the last version of the block at one of the moments.
func (w *cluster) was(key uint32, ver uint64, data []byte, from, to int) bool {
	l := w.versions(key)
	for _, v := range l[from : to+1] {
		if v.ver == ver && bytes.Equal(v.data, data) {
			return true
		}
	}
	return false
}

// judge holds the history to one order of moments: each commit is one operation's, which no other commit is, and has its result; each operation's moment is between its beginning and its answer.
func (w *cluster) judge() {
	type request struct {
		client int
		num    uint64
	}
	moments := map[request]int{}
	for i, c := range w.commits {
		a := w.actOf(c)
		if _, again := moments[request{c.client, c.num}]; a == nil || again {
			w.t.Fatal("commit", i, "is nobody's, or not the first one:", c)
		}
		moments[request{c.client, c.num}] = i
		before := w.versions(a.op.Key)[i]
		if code, ver, _ := update.Outcome(asked(*a), before.ver, true); code != c.code || ver != c.ver {
			w.t.Fatal("commit", i, c, "should be", int(code), ver)
		}
	}
	for _, a := range w.acts {
		at, committed := moments[request{a.client, a.num}]
		switch {
		case a.op.Kind == api.Read:
			if a.done && (a.reply.Code != api.OK || !w.was(a.op.Key, a.reply.Ver, a.reply.Data, a.from, a.to)) {
				w.t.Fatalf("no moment of %+v", a)
			}
		case committed && at < a.from, a.done && !committed, a.done && at >= a.to:
			w.t.Fatalf("its moment is %d, %v: %+v", at, committed, a)
		case a.done:
			if c := w.commits[at]; c.code != a.reply.Code || c.ver != a.reply.Ver {
				w.t.Fatalf("it is committed as %+v: %+v", c, a)
			}
		}
	}
}
