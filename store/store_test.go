package store_test

import (
	"bytes"
	"math"
	"slices"
	"testing"

	"catenary/api"
	"catenary/sess"
	"catenary/store"
	"catenary/vers"
)

var (
	most    = bytes.Repeat([]byte{0, 255, 'x', '\n'}, api.MaxValue/4)
	tooMany = append(bytes.Clone(most), 'y')
)

func write(seq uint64, client int, num uint64, key uint32, data string) api.Update {
	return api.Update{Seq: seq, Client: client, Num: num, Kind: api.Write, Key: key, Data: []byte(data)}
}

func compare(seq uint64, client int, num uint64, key uint32, ver uint64, data string) api.Update {
	return api.Update{Seq: seq, Client: client, Num: num, Kind: api.Compare, Key: key, Ver: ver, Data: []byte(data)}
}

// with returns a store to which the updates were applied.
func with(t *testing.T, l ...api.Update) *store.Store {
	t.Helper()
	s := store.New()
	for _, u := range l {
		if _, e := s.Apply(u); e != api.OK {
			t.Fatal("apply", u.Seq, "is", int(e))
		}
	}
	return s
}

// full returns a store with MaxKeys blocks, of the keys from 100 on, written by client 1.
func full(t *testing.T) *store.Store {
	t.Helper()
	s := store.New()
	for i := uint64(1); i <= api.MaxKeys; i++ {
		if r, e := s.Apply(write(i, 1, i, 99+uint32(i), "a")); e != api.OK || r.Code != api.OK {
			t.Fatal("apply", i, "is", int(r.Code), int(e))
		}
	}
	return s
}

func mustMake(t *testing.T, s *store.Store, u api.Update, want sess.Row) {
	t.Helper()
	r, e := s.Apply(u)
	if r != want || e != api.OK {
		t.Error("apply", u.Seq, "is", r, int(e), "want", want)
	}
	if s.End() != u.Seq {
		t.Error("the end is", s.End(), "want", u.Seq)
	}
	if has, ok := s.Row(u.Client); want != (sess.Row{}) && (has != want || !ok) {
		t.Error("the row is", has, ok, "want", want)
	}
}

func mustBe(t *testing.T, name string, got vers.Version, ver, seq uint64, data string) {
	t.Helper()
	if got.Ver != ver || got.Seq != seq || string(got.Data) != data {
		t.Errorf("%s is %d (%d) %q; want %d (%d) %q", name, got.Ver, got.Seq, got.Data, ver, seq, data)
	}
}

// P18.1: there is nothing.
func TestNew(t *testing.T) {
	s := store.New()
	if s == nil || s.End() != 0 || len(s.Keys()) != 0 {
		t.Fatal("a new store has something")
	}
	for _, key := range []uint32{0, 1, math.MaxUint32} {
		mustBe(t, "the last one", s.Last(key), 0, 0, "")
		mustBe(t, "the clean one", s.Clean(key, math.MaxUint64), 0, 0, "")
		mustBe(t, "the picked one", s.Pick(key, 0, 9), 0, 0, "")
		if s.Dirty(key, 0) {
			t.Error("dirty")
		}
	}
	if s.Trim(math.MaxUint64) != 0 {
		t.Error("trimmed")
	}
	for client := 1; client <= api.MaxClients; client++ {
		if r, ok := s.Row(client); r != (sess.Row{}) || ok || s.Judge(client, 1) != sess.Fresh {
			t.Error("client", client, "has a row", r, ok)
		}
	}
	other := store.New()
	mustMake(t, s, write(1, 1, 1, 1, "a"), sess.Row{Client: 1, Num: 1, Seq: 1, Ver: 1})
	if other.End() != 0 || len(other.Keys()) != 0 || other.Judge(1, 1) != sess.Fresh {
		t.Error("two stores share what they have")
	}
}

// P18.1: writes and compares, and the rows that they make.
func TestApply(t *testing.T) {
	s := store.New()
	mustMake(t, s, write(1, 1, 1, 7, "one"), sess.Row{Client: 1, Num: 1, Seq: 1, Code: api.OK, Ver: 1})
	mustMake(t, s, write(2, 2, 5, 7, "two"), sess.Row{Client: 2, Num: 5, Seq: 2, Code: api.OK, Ver: 2})
	mustMake(t, s, compare(3, 1, 2, 7, 1, "no"), sess.Row{Client: 1, Num: 2, Seq: 3, Code: api.ErrMatch, Ver: 2})
	mustBe(t, "the last one", s.Last(7), 2, 2, "two")
	mustMake(t, s, compare(4, 1, 9, 7, 2, "three"), sess.Row{Client: 1, Num: 9, Seq: 4, Code: api.OK, Ver: 3})
	mustBe(t, "the last one", s.Last(7), 3, 4, "three")
	mustMake(t, s, compare(5, 6, 1, 0, 1, "no"), sess.Row{Client: 6, Num: 1, Seq: 5, Code: api.ErrMatch, Ver: 0})
	if !slices.Equal(s.Keys(), []uint32{7}) {
		t.Error("the keys are", s.Keys())
	}
	mustMake(t, s, compare(6, 6, 2, math.MaxUint32, 0, ""), sess.Row{Client: 6, Num: 2, Seq: 6, Code: api.OK, Ver: 1})
	mustMake(t, s, write(7, 6, math.MaxUint64, 0, string(most)), sess.Row{Client: 6, Num: math.MaxUint64, Seq: 7, Code: api.OK, Ver: 1})
	mustBe(t, "the last one", s.Last(0), 1, 7, string(most))
	mustBe(t, "the last one", s.Last(math.MaxUint32), 1, 6, "")
	if !slices.Equal(s.Keys(), []uint32{0, 7, math.MaxUint32}) {
		t.Error("the keys are", s.Keys())
	}
}

// P18.1: what is not Fresh moves the end, and nothing else.
func TestApplyAgain(t *testing.T) {
	s := with(t, write(1, 1, 5, 7, "one"), write(2, 2, 1, 8, "b"))
	row, _ := s.Row(1)
	seq := uint64(2)
	for _, num := range []uint64{5, 4, 1} {
		for _, u := range []api.Update{write(0, 1, num, 7, "other"), write(0, 1, num, 9, "new"), compare(0, 1, num, 7, 1, "other"), compare(0, 1, num, 9, 0, "new"), compare(0, 1, num, 7, 4, "x")} {
			seq++
			u.Seq = seq
			mustMake(t, s, u, sess.Row{})
			if r, ok := s.Row(1); r != row || !ok {
				t.Error("the row is", r, ok)
			}
			mustBe(t, "the last one", s.Last(7), 1, 1, "one")
			if !slices.Equal(s.Keys(), []uint32{7, 8}) {
				t.Error("the keys are", s.Keys())
			}
		}
	}
	mustMake(t, s, write(seq+1, 1, 6, 7, "two"), sess.Row{Client: 1, Num: 6, Seq: seq + 1, Ver: 2})
	mustMake(t, s, write(seq+2, 3, 5, 7, "three"), sess.Row{Client: 3, Num: 5, Seq: seq + 2, Ver: 3}) // Nums are those of their client alone
}

// P18.1: the errors of an update, then ErrState of its Seq; and none of them changes anything.
func TestApplyErrors(t *testing.T) {
	s := with(t, write(1, 1, 5, 7, "one"), write(2, 2, 1, 8, "b"))
	picture := s.Picture()
	check := func(u api.Update, want api.Errno) {
		t.Helper()
		r, e := s.Apply(u)
		if r != (sess.Row{}) || e != want {
			t.Error("apply", u.Seq, u.Kind, "is", r, int(e), "want", int(want))
		}
		if s.End() != 2 || !bytes.Equal(s.Picture(), picture) {
			t.Fatal("an error changes something")
		}
	}
	for _, seq := range []uint64{0, 1, 2, 3, 4, math.MaxUint64} {
		for _, kind := range []int{0, api.Read, 4, -1, math.MinInt, math.MaxInt} {
			check(api.Update{Seq: seq, Client: 1, Num: 6, Kind: kind, Key: 7}, api.ErrArg)
			check(api.Update{Seq: seq, Client: 9, Kind: kind, Data: tooMany}, api.ErrArg)
		}
		for _, kind := range []int{api.Write, api.Compare} {
			check(api.Update{Seq: seq, Client: 1, Num: 6, Kind: kind, Key: 7, Data: tooMany}, api.ErrLong)
			check(api.Update{Seq: seq, Kind: kind, Data: tooMany}, api.ErrLong)
			check(api.Update{Seq: seq, Client: 0, Num: 6, Kind: kind, Key: 7}, api.ErrForm)
			check(api.Update{Seq: seq, Client: 7, Num: 6, Kind: kind, Key: 7}, api.ErrForm)
			check(api.Update{Seq: seq, Client: 1, Num: 0, Kind: kind, Key: 7}, api.ErrForm)
		}
		check(api.Update{Seq: seq, Client: 1, Num: 6, Kind: api.Write, Key: 7, Ver: 1}, api.ErrForm)
	}
	check(write(0, 1, 6, 7, "a"), api.ErrForm)
	for _, seq := range []uint64{1, 2, 4, 5, math.MaxUint64} {
		for _, num := range []uint64{4, 5, 6} { // Fresh or not
			check(write(seq, 1, num, 7, "a"), api.ErrState)
			check(compare(seq, 1, num, 7, 9, "a"), api.ErrState)
		}
	}
	mustMake(t, s, write(3, 1, 6, 7, "two"), sess.Row{Client: 1, Num: 6, Seq: 3, Ver: 2})
}

// P18.1: there is room for MaxKeys blocks.
func TestApplyFull(t *testing.T) {
	s := full(t)
	if len(s.Keys()) != api.MaxKeys {
		t.Fatal(len(s.Keys()), "keys")
	}
	mustMake(t, s, write(193, 2, 1, 5, "b"), sess.Row{Client: 2, Num: 1, Seq: 193, Code: api.ErrFull, Ver: 0})
	mustMake(t, s, compare(194, 2, 2, math.MaxUint32, 0, "b"), sess.Row{Client: 2, Num: 2, Seq: 194, Code: api.ErrFull, Ver: 0})
	mustMake(t, s, compare(195, 2, 3, 5, 1, "b"), sess.Row{Client: 2, Num: 3, Seq: 195, Code: api.ErrMatch, Ver: 0})
	mustBe(t, "the last one", s.Last(5), 0, 0, "")
	mustMake(t, s, write(196, 2, 4, 100, "b"), sess.Row{Client: 2, Num: 4, Seq: 196, Ver: 2})
	mustMake(t, s, compare(197, 2, 5, 291, 1, "b"), sess.Row{Client: 2, Num: 5, Seq: 197, Ver: 2})
	if s.Trim(197); len(s.Keys()) != api.MaxKeys || s.Keys()[0] != 100 || s.Keys()[191] != 291 {
		t.Error(s.Keys())
	}
	mustMake(t, s, write(198, 2, 6, 5, "b"), sess.Row{Client: 2, Num: 6, Seq: 198, Code: api.ErrFull, Ver: 0})
	loaded, e := store.Load(s.Picture())
	if e != api.OK {
		t.Fatal("a full store's picture is", int(e))
	}
	mustMake(t, loaded, write(199, 3, 1, 5, "b"), sess.Row{Client: 3, Num: 1, Seq: 199, Code: api.ErrFull, Ver: 0})
	mustMake(t, loaded, write(200, 3, 2, 101, "b"), sess.Row{Client: 3, Num: 2, Seq: 200, Ver: 2})
}

// P18.1: nothing stands behind the greatest end, and the greatest Ver.
func TestApplyAtTheGreatest(t *testing.T) {
	s, e := store.Load(picture(math.MaxUint64-2, nil, block{7, math.MaxUint64 - 1, 3, "a"}))
	if e != api.OK {
		t.Fatal("load is", int(e))
	}
	mustMake(t, s, compare(math.MaxUint64-1, 1, 1, 7, math.MaxUint64-1, "b"), sess.Row{Client: 1, Num: 1, Seq: math.MaxUint64 - 1, Ver: math.MaxUint64})
	mustMake(t, s, write(math.MaxUint64, 1, 2, 7, "c"), sess.Row{Client: 1, Num: 2, Seq: math.MaxUint64, Code: api.ErrFull, Ver: math.MaxUint64})
	mustBe(t, "the last one", s.Last(7), math.MaxUint64, math.MaxUint64-1, "b")
	for _, seq := range []uint64{1, math.MaxUint64 - 1, math.MaxUint64} {
		if r, e := s.Apply(write(seq, 1, 3, 7, "d")); r != (sess.Row{}) || e != api.ErrState {
			t.Error("behind the greatest end", seq, "is", r, int(e))
		}
	}
	if r, e := s.Apply(write(0, 1, 3, 7, "d")); r != (sess.Row{}) || e != api.ErrForm {
		t.Error("behind the greatest end 0 is", r, int(e))
	}
}

// P18.1, P18.2: a store keeps no memory of an update, and gives away none of its own.
func TestMemory(t *testing.T) {
	s := store.New()
	u := write(1, 1, 1, 7, "abc")
	s.Apply(u)
	u.Data[0] = '!'
	for _, get := range []func() vers.Version{
		func() vers.Version { return s.Last(7) },
		func() vers.Version { return s.Clean(7, 1) },
		func() vers.Version { return s.Pick(7, 1, 0) },
		func() vers.Version { return s.Pick(7, 0, 1) },
	} {
		v := get()
		mustBe(t, "a version", v, 1, 1, "abc")
		v.Data[1] = '?'
		_ = append(v.Data, 'x')
		mustBe(t, "a version", get(), 1, 1, "abc")
	}
	s.Apply(write(2, 1, 2, 9, "d"))
	keys := s.Keys()
	keys[0] = 8
	_ = append(keys[:1], 8)
	if !slices.Equal(s.Keys(), []uint32{7, 9}) {
		t.Error("the keys are", s.Keys())
	}
	b := s.Picture()
	if &b[0] == &s.Picture()[0] {
		t.Error("two pictures share memory")
	}
	loaded, e := store.Load(b)
	for i := range b {
		b[i] = '?'
	}
	if e != api.OK || !bytes.Equal(loaded.Picture(), s.Picture()) {
		t.Error("a store keeps memory of a picture", int(e))
	}
}

// P18.2: what is told of a block's versions is what layer 15 tells, at each edge of done.
func TestVersions(t *testing.T) {
	s := with(t, write(1, 1, 1, 8, "x"), write(2, 1, 2, 7, "a"), compare(3, 1, 3, 7, 9, "no"), write(4, 1, 4, 7, "b"), write(5, 1, 5, 8, "y"), compare(6, 1, 6, 7, 2, "c"))
	blocks := map[uint32]*vers.Block{7: vers.New(), 8: vers.New(), 9: nil}
	for _, v := range []struct {
		key uint32
		vers.Version
	}{
		{8, vers.Version{Ver: 1, Seq: 1, Data: []byte("x")}}, {8, vers.Version{Ver: 2, Seq: 5, Data: []byte("y")}},
		{7, vers.Version{Ver: 1, Seq: 2, Data: []byte("a")}}, {7, vers.Version{Ver: 2, Seq: 4, Data: []byte("b")}}, {7, vers.Version{Ver: 3, Seq: 6, Data: []byte("c")}},
	} {
		blocks[v.key].Put(v.Version)
	}
	check := func() {
		t.Helper()
		for key, b := range blocks {
			for _, done := range []uint64{0, 1, 2, 3, 4, 5, 6, 7, math.MaxUint64} {
				if !vers.Same(s.Last(key), b.Last()) || !vers.Same(s.Clean(key, done), b.Clean(done)) || s.Dirty(key, done) != b.Dirty(done) {
					t.Error("the versions of", key, "for", done, "are", s.Last(key), s.Clean(key, done), s.Dirty(key, done))
				}
				for _, ver := range []uint64{0, 1, 2, 3, 4, math.MaxUint64} {
					if !vers.Same(s.Pick(key, ver, done), b.Pick(ver, done)) {
						t.Error("pick", key, ver, done, "is", s.Pick(key, ver, done))
					}
				}
			}
		}
	}
	check()
	for _, done := range []uint64{0, 1, 3, 4, 5, 5, 6, math.MaxUint64} {
		removed := 0
		for _, b := range blocks {
			removed += b.Trim(done)
		}
		if got := s.Trim(done); got != removed {
			t.Error("trim", done, "is", got, "want", removed)
		}
		check()
		if !slices.Equal(s.Keys(), []uint32{7, 8}) || s.End() != 6 {
			t.Error("trim", done, "changes the keys", s.Keys())
		}
	}
}

// P18.2: how many versions are removed, of all blocks together.
func TestTrimCounts(t *testing.T) {
	s := store.New()
	for i := range uint64(12) {
		s.Apply(write(i+1, 1, i+1, uint32(i%3), "a"))
	}
	for _, x := range []struct {
		done uint64
		want int
	}{{0, 0}, {3, 0}, {4, 1}, {4, 0}, {9, 5}, {6, 0}, {12, 3}, {math.MaxUint64, 0}} {
		if got := s.Trim(x.done); got != x.want {
			t.Error("trim", x.done, "is", got, "want", x.want)
		}
	}
	mustBe(t, "the last one", s.Last(2), 4, 12, "a")
}

// P18.2: what is told of the sessions is what layer 16 tells.
func TestSessions(t *testing.T) {
	s := with(t, write(1, 1, 5, 7, "a"), compare(2, 6, 2, 7, 0, "b"), write(3, 1, 9, 7, "c"))
	x := sess.New()
	x.Set(sess.Row{Client: 1, Num: 9, Seq: 3, Ver: 2})
	x.Set(sess.Row{Client: 6, Num: 2, Seq: 2, Code: api.ErrMatch, Ver: 1})
	for _, client := range []int{0, -1, 1, 2, 5, 6, 7, 201, math.MinInt, math.MaxInt} {
		r, ok := s.Row(client)
		if want, has := x.Get(client); r != want || ok != has {
			t.Error("the row of", client, "is", r, ok)
		}
		for _, num := range []uint64{0, 1, 2, 3, 5, 8, 9, 10, math.MaxUint64} {
			if s.Judge(client, num) != x.Judge(client, num) {
				t.Error("judge", client, num, "is", s.Judge(client, num))
			}
		}
	}
}

// P18.2: keys increase, whatever the order is in which their blocks were written.
func TestKeys(t *testing.T) {
	s := store.New()
	for i, key := range []uint32{9, 256, 0, math.MaxUint32, 1, 1 << 31, 9, 0, 255} {
		s.Apply(write(uint64(i+1), 1, uint64(i+1), key, "a"))
	}
	for range 9 {
		if !slices.Equal(s.Keys(), []uint32{0, 1, 9, 255, 256, 1 << 31, math.MaxUint32}) {
			t.Fatal("the keys are", s.Keys())
		}
	}
}

// P18.1 to P18.3: what a nil store answers.
func TestNil(t *testing.T) {
	var s *store.Store
	for _, u := range []api.Update{write(1, 1, 1, 1, "a"), {}, write(1, 1, 1, 1, string(tooMany))} {
		if r, e := s.Apply(u); r != (sess.Row{}) || e != api.ErrNil {
			t.Error("apply is", r, int(e))
		}
	}
	if s.End() != 0 || len(s.Keys()) != 0 || len(s.Picture()) != 0 {
		t.Error("a nil store has something")
	}
	for _, done := range []uint64{0, 1, math.MaxUint64} {
		mustBe(t, "the last one", s.Last(1), 0, 0, "")
		mustBe(t, "the clean one", s.Clean(1, done), 0, 0, "")
		mustBe(t, "the picked one", s.Pick(1, 0, done), 0, 0, "")
		if s.Dirty(1, done) || s.Trim(done) != 0 {
			t.Error("dirty, or trimmed")
		}
	}
	for _, client := range []int{0, -1, 1, 6, 7, math.MaxInt} {
		if r, ok := s.Row(client); r != (sess.Row{}) || ok || s.Judge(client, 1) != sess.Old || s.Judge(client, 0) != sess.Old {
			t.Error("client", client, "is", r, ok, s.Judge(client, 1))
		}
	}
}
