package craq_test

import (
	"bytes"
	"math"
	"math/rand"
	"slices"
	"testing"

	"catenary/api"
	"catenary/craq"
	"catenary/store"
	"catenary/vers"
)

// ask lets a read wait that must get the token.
func ask(t *testing.T, x *craq.Reads, client int, num uint64, key uint32, token uint64) {
	t.Helper()
	if r, e := x.Ask(client, num, key); r != (craq.Read{Token: token, Client: client, Num: num, Key: key}) || e != api.OK {
		t.Error(client, num, key, "gets", r, int(e), "not", token)
	}
}

// waits holds x to the reads that wait, by their tokens.
func waits(t *testing.T, x *craq.Reads, tokens ...uint64) {
	t.Helper()
	var l []uint64
	for _, r := range x.List() {
		l = append(l, r.Token)
	}
	if !slices.Equal(l, tokens) || x.Len() != len(tokens) {
		t.Error(l, x.Len(), "wait, not", tokens)
	}
}

// P22.1: in new Reads nothing waits.
func TestNew(t *testing.T) {
	x := craq.New()
	waits(t, x)
	for _, token := range []uint64{0, 1, math.MaxUint64} {
		if r, ok := x.Told(token); r != (craq.Read{}) || ok {
			t.Error(token, r, ok)
		}
	}
	if n := x.Clear(); n != 0 {
		t.Error(n)
	}
	ask(t, x, 1, 1, 0, 1)
}

// P22.1: tokens are given from 1 on; the same read gets the one that it has; each client has one read, the last one.
func TestAsk(t *testing.T) {
	x := craq.New()
	ask(t, x, 3, 7, 5, 1)
	ask(t, x, 1, 7, 5, 2)
	ask(t, x, 6, math.MaxUint64, math.MaxUint32, 3)
	waits(t, x, 1, 2, 3)
	ask(t, x, 3, 7, 5, 1) // the same one: no token is used up, nothing else changes
	ask(t, x, 1, 7, 5, 2)
	ask(t, x, 6, math.MaxUint64, math.MaxUint32, 3)
	waits(t, x, 1, 2, 3)
	ask(t, x, 3, 8, 5, 4) // another number
	waits(t, x, 2, 3, 4)
	ask(t, x, 1, 7, 0, 5) // another key with the same number
	waits(t, x, 3, 4, 5)
	ask(t, x, 3, 2, 5, 6) // a number below the previous one
	waits(t, x, 3, 5, 6)
	ask(t, x, 3, 7, 5, 7) // it waited before, but no longer does
	waits(t, x, 3, 5, 7)
	want := []craq.Read{{3, 6, math.MaxUint64, math.MaxUint32}, {5, 1, 7, 0}, {7, 3, 7, 5}}
	if l := x.List(); !slices.Equal(l, want) {
		t.Error(l)
	}
}

// P22.1: clients are from 1 to MaxClients, and no number is 0; wrong ones change nothing, and use no token up.
func TestAskWrong(t *testing.T) {
	x := craq.New()
	ask(t, x, 1, 1, 1, 1)
	for _, c := range []struct {
		client int
		num    uint64
	}{
		{0, 1}, {-1, 1}, {math.MinInt, 1}, {api.MaxClients + 1, 1}, {math.MaxInt, 1}, {api.Clients + 1, 1}, {1, 0}, {2, 0}, {api.MaxClients, 0}, {0, 0},
	} {
		if r, e := x.Ask(c.client, c.num, 1); r != (craq.Read{}) || e != api.ErrArg {
			t.Error(c, r, int(e))
		}
	}
	waits(t, x, 1)
	ask(t, x, api.MaxClients, 1, 1, 2)
	ask(t, x, 1, 2, 1, 3)
	waits(t, x, 2, 3)
}

// P22.1: there is room for a read of each client.
func TestAskAll(t *testing.T) {
	if craq.MaxReads != 16 {
		t.Error(craq.MaxReads)
	}
	x := craq.New()
	token := uint64(0)
	for num := uint64(1); num <= 2*craq.MaxReads; num++ {
		for client := 1; client <= api.MaxClients; client++ {
			token++
			ask(t, x, client, num, 9, token)
		}
		if x.Len() != api.MaxClients {
			t.Error(num, x.Len())
		}
	}
}

// P22.1: the read with that token is returned, and then no longer waits.
func TestTold(t *testing.T) {
	x := craq.New()
	for client := 1; client <= 4; client++ {
		ask(t, x, client, 10+uint64(client), 100+uint32(client), uint64(client))
	}
	for _, token := range []uint64{0, 5, math.MaxUint64} {
		if r, ok := x.Told(token); r != (craq.Read{}) || ok {
			t.Error(token, r, ok)
		}
	}
	waits(t, x, 1, 2, 3, 4)
	left := []uint64{1, 2, 3, 4}
	for _, token := range []uint64{2, 4, 1, 3} {
		want := craq.Read{Token: token, Client: int(token), Num: 10 + token, Key: 100 + uint32(token)}
		if r, ok := x.Told(token); r != want || !ok {
			t.Error(token, r, ok)
		}
		left = slices.DeleteFunc(left, func(n uint64) bool { return n == token })
		waits(t, x, left...)
		if r, ok := x.Told(token); r != (craq.Read{}) || ok {
			t.Error(token, "twice", r, ok)
		}
	}
	ask(t, x, 2, 12, 102, 5) // what was told waits anew, with another token
	waits(t, x, 5)
}

// P22.1: the token of a read that another one of its client removed is told nothing.
func TestToldRemoved(t *testing.T) {
	x := craq.New()
	ask(t, x, 2, 1, 1, 1)
	ask(t, x, 2, 2, 1, 2)
	if r, ok := x.Told(1); r != (craq.Read{}) || ok {
		t.Error(r, ok)
	}
	waits(t, x, 2)
}

// P22.1: all waiting reads are removed; the tokens continue.
func TestClear(t *testing.T) {
	x := craq.New()
	ask(t, x, 1, 1, 1, 1)
	ask(t, x, 2, 1, 1, 2)
	ask(t, x, 3, 1, 1, 3)
	x.Told(2)
	for _, want := range []int{2, 0, 0} {
		if n := x.Clear(); n != want {
			t.Error(n, want)
		}
		waits(t, x)
	}
	if r, ok := x.Told(1); r != (craq.Read{}) || ok {
		t.Error(r, ok)
	}
	ask(t, x, 1, 1, 1, 4)
	waits(t, x, 4)
}

// P22.1: nil Reads have nothing, and take nothing.
func TestNil(t *testing.T) {
	var x *craq.Reads
	for _, client := range []int{1, 0, -1} {
		if r, e := x.Ask(client, 1, 1); r != (craq.Read{}) || e != api.ErrNil {
			t.Error(client, r, int(e))
		}
	}
	if r, ok := x.Told(1); r != (craq.Read{}) || ok {
		t.Error(r, ok)
	}
	if x.Clear() != 0 || x.Len() != 0 || len(x.List()) != 0 {
		t.Error("nil Reads have some")
	}
}

// P22.1: a list shares no memory with the Reads.
func TestMemory(t *testing.T) {
	x := craq.New()
	ask(t, x, 1, 1, 1, 1)
	ask(t, x, 2, 1, 1, 2)
	l := x.List()
	_ = append(l[:1], craq.Read{Token: 9})
	clear(l[:cap(l)])
	waits(t, x, 1, 2)
	l = x.List()
	x.Told(1)
	ask(t, x, 2, 2, 1, 3)
	if !slices.Equal(l, []craq.Read{{1, 1, 1, 1}, {2, 2, 1, 1}}) {
		t.Error(l)
	}
}

// P22.1, P22.3: any series of calls, beside a model; a client has at most one waiting read, and no token is given twice.
func TestReadsTheorem(t *testing.T) {
	r := rand.New(rand.NewSource(22))
	removed, again := 0, 0
	for range 300 {
		x := craq.New()
		var model []craq.Read
		last := uint64(0)
		for range 200 {
			switch r.Intn(8) {
			case 0:
				token := last + 1 - min(last, uint64(r.Intn(9)))
				i := slices.IndexFunc(model, func(m craq.Read) bool { return m.Token == token })
				var want craq.Read
				if i >= 0 {
					want = model[i]
					model = slices.Delete(model, i, i+1)
				}
				if got, ok := x.Told(token); got != want || ok != (i >= 0) {
					t.Fatal(token, got, ok, want)
				}
			case 1:
				if r.Intn(10) == 0 {
					if n := x.Clear(); n != len(model) {
						t.Fatal(n, model)
					}
					model = nil
				}
			default:
				client, num, key := 1+r.Intn(api.MaxClients), uint64(1+r.Intn(2)), uint32(r.Intn(2))
				got, e := x.Ask(client, num, key)
				i := slices.IndexFunc(model, func(m craq.Read) bool { return m.Client == client })
				if i >= 0 && model[i].Num == num && model[i].Key == key {
					again++
					if got != model[i] || e != api.OK {
						t.Fatal(got, int(e), model[i])
					}
					break
				}
				if i >= 0 {
					removed++
					model = slices.Delete(model, i, i+1)
				}
				last++
				model = append(model, craq.Read{Token: last, Client: client, Num: num, Key: key})
				if got != model[len(model)-1] || e != api.OK {
					t.Fatal(got, int(e), model)
				}
			}
			if l := x.List(); !slices.Equal(l, model) || x.Len() != len(model) || len(l) > api.MaxClients {
				t.Fatal(l, model)
			}
		}
	}
	if removed < 1000 || again < 1000 {
		t.Error("hardly any read was removed, or asked again", removed, again)
	}
}

// data are those of a version of a block.
func data(key uint32, ver uint64) []byte {
	return []byte{byte(key), byte(ver), byte(ver >> 8)}
}

// written returns a store in which the update i, from 1 on, writes the block of the key l[i-1].
func written(t *testing.T, l ...uint32) *store.Store {
	t.Helper()
	s := store.New()
	for i, key := range l {
		seq := uint64(i + 1)
		u := api.Update{Seq: seq, Client: 1, Num: seq, Kind: api.Write, Key: key, Data: data(key, s.Last(key).Ver+1)}
		if _, e := s.Apply(u); e != api.OK {
			t.Fatal(seq, int(e))
		}
	}
	return s
}

// holds holds an answer to the version of the block with that Ver, made by the update seq: the zero version for 0.
func holds(t *testing.T, v vers.Version, ok bool, key uint32, ver, seq uint64, good bool) {
	t.Helper()
	var want vers.Version
	if ver > 0 {
		want = vers.Version{Ver: ver, Seq: seq, Data: data(key, ver)}
	}
	if !vers.Same(v, want) || ok != good {
		t.Error(v, ok, "not", want, good)
	}
}

// P22.2: the last version, as long as it is not dirty.
func TestNow(t *testing.T) {
	s := written(t, 7, 8, 7, 7)
	for _, c := range []struct {
		key       uint32
		done      uint64
		ver, made uint64
		ok        bool
	}{
		{7, 0, 0, 0, false}, {7, 1, 0, 0, false}, {7, 3, 0, 0, false}, {7, 4, 3, 4, true}, {7, 5, 3, 4, true}, {7, math.MaxUint64, 3, 4, true},
		{8, 0, 0, 0, false}, {8, 1, 0, 0, false}, {8, 2, 1, 2, true}, {8, 3, 1, 2, true},
		{9, 0, 0, 0, true}, {9, 4, 0, 0, true}, {0, math.MaxUint64, 0, 0, true}, {math.MaxUint32, 0, 0, 0, true},
	} {
		v, ok := craq.Now(s, c.key, c.done)
		holds(t, v, ok, c.key, c.ver, c.made, c.ok)
	}
}

// P22.2: the version that the tail sent; if there is none, the clean one, if that is newer; the zero version only for 0.
func TestThen(t *testing.T) {
	s := written(t, 7, 8, 7, 7, 7) // the block 7 has the versions 1 to 4, of the updates 1, 3, 4 and 5
	trimmed := written(t, 7, 8, 7, 7, 7)
	trimmed.Trim(4) // it has the versions 3 and 4
	for _, c := range []struct {
		s         *store.Store
		key       uint32
		ver, done uint64
		want, seq uint64
		ok        bool
	}{
		{s, 7, 1, 0, 1, 1, true}, {s, 7, 2, 0, 2, 3, true}, {s, 7, 4, 0, 4, 5, true}, {s, 7, 1, 5, 1, 1, true}, {s, 7, 4, 5, 4, 5, true},
		{s, 7, 5, 5, 0, 0, false}, {s, 7, 5, math.MaxUint64, 0, 0, false}, {s, 7, math.MaxUint64, 5, 0, 0, false},
		{s, 7, 0, 0, 0, 0, true}, {s, 7, 0, 1, 1, 1, true}, {s, 7, 0, 2, 1, 1, true}, {s, 7, 0, 4, 3, 4, true}, {s, 7, 0, 9, 4, 5, true},
		{trimmed, 7, 3, 4, 3, 4, true}, {trimmed, 7, 4, 4, 4, 5, true}, {trimmed, 7, 2, 4, 3, 4, true}, {trimmed, 7, 1, 4, 3, 4, true}, {trimmed, 7, 0, 4, 3, 4, true},
		{trimmed, 7, 2, 5, 4, 5, true}, {trimmed, 7, 3, 5, 3, 4, true}, {trimmed, 7, 5, 5, 0, 0, false}, {trimmed, 7, 2, 3, 0, 0, false}, {trimmed, 7, 0, 3, 0, 0, true},
		{s, 9, 0, 0, 0, 0, true}, {s, 9, 0, 5, 0, 0, true}, {s, 9, 1, 5, 0, 0, false}, {s, 9, math.MaxUint64, 5, 0, 0, false},
	} {
		v, ok := craq.Then(c.s, c.key, c.ver, c.done)
		holds(t, v, ok, c.key, c.want, c.seq, c.ok)
	}
}

// P22.2: the chapter's example.
func TestExample(t *testing.T) {
	s := written(t, 7, 7)
	v, ok := craq.Now(s, 7, 1)
	holds(t, v, ok, 7, 0, 0, false)
	v, ok = craq.Then(s, 7, 1, 1)
	holds(t, v, ok, 7, 1, 1, true)
	v, ok = craq.Then(s, 7, 2, 1)
	holds(t, v, ok, 7, 2, 2, true)
}

// P22.2: a nil store counts as an empty one.
func TestNilStore(t *testing.T) {
	for _, s := range []*store.Store{nil, store.New()} {
		for _, done := range []uint64{0, 1, math.MaxUint64} {
			v, ok := craq.Now(s, 7, done)
			holds(t, v, ok, 7, 0, 0, true)
			v, ok = craq.Then(s, 7, 0, done)
			holds(t, v, ok, 7, 0, 0, true)
			v, ok = craq.Then(s, 7, 1, done)
			holds(t, v, ok, 7, 0, 0, false)
		}
	}
}

// P22.2: answers share no memory with the store, which they don't change.
func TestAnswersMemory(t *testing.T) {
	s := written(t, 7, 7)
	before := s.Picture()
	for range 2 {
		v, ok := craq.Now(s, 7, 2)
		holds(t, v, ok, 7, 2, 2, true)
		clear(v.Data)
		for ver := range uint64(3) {
			v, ok := craq.Then(s, 7, ver, 1)
			holds(t, v, ok, 7, max(ver, 1), max(ver, 1), true)
			clear(v.Data)
		}
	}
	if !bytes.Equal(s.Picture(), before) {
		t.Error("the store changed")
	}
}

// P22.3: beside a node that is behind or ahead of the tail, what is answered is the version that the tail sent, or a clean one that is newer; if nothing is answered, the node has neither.
func TestAnswersTheorem(t *testing.T) {
	r := rand.New(rand.NewSource(223))
	sent, newer, none, dirty := 0, 0, 0, 0
	for range 3000 {
		var l []uint32
		for range r.Intn(20) {
			l = append(l, uint32(r.Intn(3)))
		}
		s := written(t, l...)
		done := uint64(r.Intn(len(l) + 1))
		if r.Intn(2) == 0 {
			s.Trim(done)
		}
		done += uint64(r.Intn(len(l) - int(done) + 1))
		key, ver := uint32(r.Intn(4)), uint64(r.Intn(8))
		last, clean := s.Last(key), s.Clean(key, done)
		v, ok := craq.Now(s, key, done)
		if ok != (last.Seq <= done) || ok && !vers.Same(v, last) || !ok && !vers.Same(v, vers.Version{}) {
			t.Fatal(l, key, done, v, ok)
		}
		if !ok {
			dirty++
		}
		v, ok = craq.Then(s, key, ver, done)
		switch {
		case !ok:
			none++
			if !vers.Same(v, vers.Version{}) || ver == 0 || clean.Ver > ver || ver >= clean.Ver && ver <= last.Ver {
				t.Fatal(l, key, ver, done, "is not answered", v)
			}
		case v.Ver == ver:
			sent++
		default:
			newer++
			if v.Ver < ver || !vers.Same(v, clean) {
				t.Fatal(l, key, ver, done, v)
			}
		}
	}
	if sent < 300 || newer < 300 || none < 300 || dirty < 300 {
		t.Error("hardly any answer of a kind", sent, newer, none, dirty)
	}
}
