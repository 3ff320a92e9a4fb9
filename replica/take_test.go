package replica_test

import (
	"bytes"
	"math"
	"slices"
	"testing"

	"catenary/api"
	"catenary/conf"
	"catenary/replica"
	"catenary/store"
)

// P23.1: the chapter's example: in a chain of one a write is reported as done immediately.
func TestExample(t *testing.T) {
	x := made(t, 1, of(1))
	takes(t, x, ask(of(1), 1, at(1)), wrote(1, client(1), 1, api.OK, 1))
	is(t, x, 1, 1, true)
}

// P23.1: a write that is new is executed as the next update, and passed on; it is answered when it is done.
func TestWrite(t *testing.T) {
	c := of(1, 2)
	x := made(t, 1, c)
	takes(t, x, ask(c, 1, at(1)), push(c, 1, 2, 1, 0)) // what 2 has is not known
	takes(t, x, ask(c, 1, at(2)), push(c, 1, 2, 2, 0))
	is(t, x, 2, 0, true)
	takes(t, x, ack(c, 2, 1, 0, 0), push(c, 1, 2, 2, 0, run(1, 2)...))
	takes(t, x, ask(c, 1, at(3)), push(c, 1, 2, 3, 0, run(1, 3)...))
	takes(t, x, ask(c, 1, at(4)), push(c, 1, 2, 4, 0, run(1, 4)...))
	takes(t, x, ask(c, 1, at(5)), push(c, 1, 2, 5, 0, run(1, 4)...)) // at most four
	takes(t, x, ack(c, 2, 1, 2, 2), wrote(1, client(1), 1, api.OK, 1), wrote(1, client(2), 2, api.OK, 1), push(c, 1, 2, 5, 0, run(3, 5)...))
	is(t, x, 5, 2, true)
	takes(t, x, ask(c, 1, at(6)), push(c, 1, 2, 6, 0, run(3, 6)...))
	if v := x.Store().Last(0); v.Seq != 6 || v.Ver != 2 || !bytes.Equal(v.Data, at(6).Data) {
		t.Error(v)
	}
}

// P23.1: in a chain of one with a Join a write is done at once, and passed on to the Join.
func TestWriteJoin(t *testing.T) {
	c := joined(of(1), 2)
	x := made(t, 1, c)
	takes(t, x, ask(c, 1, at(1)), wrote(1, client(1), 1, api.OK, 1), push(c, 1, 2, 1, 0))
	takes(t, x, ack(c, 2, 1, 1, 1), push(c, 1, 2, 1, 0))
	takes(t, x, ask(c, 1, at(2)), wrote(1, client(2), 2, api.OK, 1), push(c, 1, 2, 2, 0, at(2)))
	is(t, x, 2, 2, true)
}

// P23.1: one that is not open, not the head, or without a configuration, executes no write.
func TestWriteClosed(t *testing.T) {
	x := drawn(t, 1, of(1)) // the head, but never opened
	takes(t, x, ask(of(1), 1, at(1)))
	is(t, x, 0, 0, false)
	x = drawn(t, 1, of(1, 2))
	takes(t, x, ask(of(1, 2), 1, at(1)))
	is(t, x, 0, 0, false)
	x = made(t, 2, of(1, 2))
	takes(t, x, ask(of(1, 2), 2, at(1)))
	is(t, x, 0, 0, true)
	x = made(t, 1, api.Conf{})
	takes(t, x, ask(of(1), 1, at(1)))
	is(t, x, 0, 0, false)
	x = drawn(t, 2, joined(of(1), 2))
	takes(t, x, ask(joined(of(1), 2), 2, at(1)))
	is(t, x, 0, 0, false)
}

// P23.1: a write that is repeated is answered by the client's row if that is done, and has no effect; nor has one that is older.
func TestWriteAgain(t *testing.T) {
	c := of(1, 2)
	x := made(t, 1, c)
	one := api.Update{Client: 4, Num: 5, Kind: api.Compare, Key: 8, Ver: 3}
	two := api.Update{Client: 4, Num: 9, Kind: api.Write, Key: 8, Data: []byte("b")}
	takes(t, x, ask(c, 1, one), push(c, 1, 2, 1, 0))
	takes(t, x, ask(c, 1, one)) // in progress
	takes(t, x, ack(c, 2, 1, 1, 1), wrote(1, 4, 5, api.ErrMatch, 0), push(c, 1, 2, 1, 0))
	takes(t, x, ask(c, 1, one), wrote(1, 4, 5, api.ErrMatch, 0))
	takes(t, x, ask(c, 1, two), push(c, 1, 2, 2, 0, api.Update{Seq: 2, Client: 4, Num: 9, Kind: api.Write, Key: 8, Data: []byte("b")}))
	takes(t, x, ask(c, 1, one)) // Old
	takes(t, x, ask(c, 1, two))
	two.Data = []byte("another one") // it is the Num that counts
	takes(t, x, ask(c, 1, two))
	is(t, x, 2, 1, true)
	takes(t, x, ack(c, 2, 1, 2, 2), wrote(1, 4, 9, api.OK, 1))
	takes(t, x, ask(c, 1, two), wrote(1, 4, 9, api.OK, 1))
	takes(t, x, ask(c, 1, one))
	is(t, x, 2, 2, true)
	if v := x.Store().Last(8); string(v.Data) != "b" || v.Ver != 1 {
		t.Error(v)
	}
}

// P23.1: the client of a write is that of its update, whoever sends the letter.
func TestWriteClient(t *testing.T) {
	x := made(t, 1, of(1))
	l := ask(of(1), 1, api.Update{Client: 4, Num: 5, Kind: api.Write, Key: 8})
	l.From = api.Clients + 2
	takes(t, x, l, wrote(1, 4, 5, api.OK, 1))
	takes(t, x, l, wrote(1, 4, 5, api.OK, 1))
}

// P23.1: while MaxDirty updates are not done, new writes have no effect.
func TestWriteRoom(t *testing.T) {
	c := of(1, 2)
	x := made(t, 1, c)
	takes(t, x, ack(c, 2, 1, 0, 0), push(c, 1, 2, 0, 0))
	serve(t, x, 1, api.MaxDirty)
	takes(t, x, ask(c, 1, at(17)))
	takes(t, x, ack(c, 2, 1, 16, 0))
	takes(t, x, ask(c, 1, at(17)))
	is(t, x, 16, 0, true)
	takes(t, x, ack(c, 2, 1, 16, 1)) // the client of update 1 has gone on
	takes(t, x, ask(c, 1, at(17)), push(c, 1, 2, 17, 0, at(17)))
	takes(t, x, ask(c, 1, at(18)))
	is(t, x, 17, 1, true)
}

// P23.1: an update whose block has no room, or whose Ver is another one, is an update, too; its result is the row's.
func TestWriteResults(t *testing.T) {
	x := made(t, 1, of(1))
	for n := range uint64(api.MaxKeys) {
		takes(t, x, ask(of(1), 1, api.Update{Client: 1, Num: n + 1, Kind: api.Write, Key: uint32(n)}), wrote(1, 1, n+1, api.OK, 1))
	}
	takes(t, x, ask(of(1), 1, api.Update{Client: 1, Num: 500, Kind: api.Write, Key: api.MaxKeys}), wrote(1, 1, 500, api.ErrFull, 0))
	takes(t, x, ask(of(1), 1, api.Update{Client: 2, Num: 1, Kind: api.Write, Key: 0}), wrote(1, 2, 1, api.OK, 2))
	takes(t, x, ask(of(1), 1, api.Update{Client: 2, Num: 2, Kind: api.Compare, Key: 0, Ver: 1}), wrote(1, 2, 2, api.ErrMatch, 2))
	takes(t, x, ask(of(1), 1, api.Update{Client: 2, Num: 3, Kind: api.Compare, Key: 0, Ver: 2}), wrote(1, 2, 3, api.OK, 3))
	is(t, x, api.MaxKeys+4, api.MaxKeys+4, true)
}

// P23.1: a node in the middle executes what fits, acknowledges, and passes on if it knows what Succ has.
func TestPushMiddle(t *testing.T) {
	c := of(1, 2, 3)
	x := made(t, 2, c)
	takes(t, x, push(c, 1, 2, 9, 4, run(1, 2)...), ack(c, 2, 1, 2, 0))
	is(t, x, 2, 0, true)
	takes(t, x, ack(c, 3, 2, 1, 1), ack(c, 2, 1, 2, 1), push(c, 2, 3, 2, 0, at(2)))
	takes(t, x, push(c, 1, 2, 9, 4, run(1, 4)...), ack(c, 2, 1, 4, 1), push(c, 2, 3, 4, 0, run(2, 4)...))
	takes(t, x, push(c, 1, 2, 9, 4, run(1, 4)...), ack(c, 2, 1, 4, 1)) // none is new
	takes(t, x, push(c, 1, 2, 9, 4, run(6, 8)...), ack(c, 2, 1, 4, 1)) // none fits
	takes(t, x, push(c, 1, 2, 9, 4), ack(c, 2, 1, 4, 1))
	takes(t, x, push(c, 1, 2, 9, 4, at(3), at(5), at(7), at(6)), ack(c, 2, 1, 6, 1), push(c, 2, 3, 6, 0, run(2, 5)...))
	is(t, x, 6, 1, true)
}

// P23.1: the tail is done with all that it has; it acknowledges that, and then once more.
func TestPushTail(t *testing.T) {
	c := of(1, 2)
	x := made(t, 2, c)
	takes(t, x, push(c, 1, 2, 3, 0, run(1, 3)...), ack(c, 2, 1, 3, 3), ack(c, 2, 1, 3, 3))
	is(t, x, 3, 3, true)
	takes(t, x, push(c, 1, 2, 3, 0, run(1, 3)...), ack(c, 2, 1, 3, 3))
	takes(t, x, push(c, 1, 2, 3, 0), ack(c, 2, 1, 3, 3))
	if x.Store().Trim(3) != 0 {
		t.Error("not trimmed")
	}

	c = joined(of(1, 2), 3) // and passes on to the Join
	x = made(t, 2, c)
	takes(t, x, push(c, 1, 2, 1, 0, at(1)), ack(c, 2, 1, 1, 1), ack(c, 2, 1, 1, 1))
	takes(t, x, ack(c, 3, 2, 0, 0), push(c, 2, 3, 1, 0, at(1)))
	takes(t, x, push(c, 1, 2, 2, 0, at(2)), ack(c, 2, 1, 2, 2), ack(c, 2, 1, 2, 2), push(c, 2, 3, 2, 0, run(1, 2)...))
	takes(t, x, push(c, 1, 2, 2, 0, at(2)), ack(c, 2, 1, 2, 2))
}

// P23.1: the Join is done with all that it has, and acknowledges once; it does not become open.
func TestPushJoin(t *testing.T) {
	c := joined(of(1, 2), 3)
	x := drawn(t, 3, c)
	takes(t, x, push(c, 2, 3, 2, 0), ack(c, 3, 2, 0, 0))
	takes(t, x, push(c, 2, 3, 2, 0, run(1, 2)...), ack(c, 3, 2, 2, 2))
	is(t, x, 2, 2, false)
	takes(t, x, push(c, 2, 3, 2, 0, run(1, 2)...), ack(c, 3, 2, 2, 2))
	is(t, x, 2, 2, false)
}

// P23.1: a Fresh tail becomes open when it has all that the one before it had when that adopted the configuration.
func TestPushFresh(t *testing.T) {
	c := fresh(of(1, 2))
	x := drawn(t, 2, c)
	takes(t, x, push(c, 1, 2, 5, 4), ack(c, 2, 1, 0, 0))
	is(t, x, 0, 0, false)
	takes(t, x, push(c, 1, 2, 5, 4, run(1, 3)...), ack(c, 2, 1, 3, 3), ack(c, 2, 1, 3, 3))
	is(t, x, 3, 3, false)
	takes(t, x, push(c, 1, 2, 5, 4, at(4)), ack(c, 2, 1, 4, 4), ack(c, 2, 1, 4, 4))
	is(t, x, 4, 4, true)
	takes(t, x, push(c, 1, 2, 9, 9), ack(c, 2, 1, 4, 4)) // it stays open
	is(t, x, 4, 4, true)
	adopt(t, x, later(of(1, 2), 1))
	is(t, x, 4, 4, true)

	x = drawn(t, 2, c) // at once, if there was nothing
	takes(t, x, push(c, 1, 2, 5, 0), ack(c, 2, 1, 0, 0))
	is(t, x, 0, 0, true)

	x = drawn(t, 2, of(1, 2)) // not if it is not Fresh
	takes(t, x, push(of(1, 2), 1, 2, 5, 0), ack(of(1, 2), 2, 1, 0, 0))
	is(t, x, 0, 0, false)

	c = fresh(of(1, 2, 3)) // nor if it is not the tail
	x = drawn(t, 2, c)
	takes(t, x, push(c, 1, 2, 5, 0), ack(c, 2, 1, 0, 0))
	is(t, x, 0, 0, false)
}

// twoParts returns a store of twenty blocks, at that end, whose picture has two parts.
func twoParts(t *testing.T, end uint64) (*store.Store, [2][]byte) {
	t.Helper()
	s := store.New()
	for seq := uint64(1); seq <= end; seq++ {
		u := at(seq)
		u.Key, u.Data = uint32(seq%20), bytes.Repeat([]byte{byte(seq)}, 50)
		if _, e := s.Apply(u); e != api.OK {
			t.Fatal(seq, int(e))
		}
	}
	b := s.Picture()
	if len(b) <= api.MaxPart || len(b) > 2*api.MaxPart {
		t.Fatal(len(b))
	}
	return s, [2][]byte{b[:api.MaxPart], b[api.MaxPart:]}
}

// P23.1: a picture whose last part has arrived becomes the store; its end is done, and nothing before it is held.
func TestPart(t *testing.T) {
	s, b := twoParts(t, 40)
	c := joined(of(1), 3)
	x := drawn(t, 3, c)
	fill(t, x, 3, 2)
	old := x.Store()
	takes(t, x, part(c, 1, 3, 40, 1, 2, b[1]), wants(c, 3, 1, 2, 2, 40, 0))
	takes(t, x, part(c, 1, 3, 40, 0, 2, b[0]), wants(c, 3, 1, 2, 2, 40, 1))
	takes(t, x, part(c, 1, 3, 40, 0, 2, b[0]), wants(c, 3, 1, 2, 2, 40, 1))
	is(t, x, 2, 2, false)
	takes(t, x, part(c, 1, 3, 40, 1, 2, b[1]), wants(c, 3, 1, 40, 40, 40, 0))
	is(t, x, 40, 40, false)
	if x.Low() != 40 || !bytes.Equal(x.Store().Picture(), s.Picture()) || x.Store() == old {
		t.Error(x.Low(), "another picture")
	}
	takes(t, x, push(c, 1, 3, 41, 0, run(38, 41)...), wants(c, 3, 1, 41, 41, 40, 0)) // it goes on from there
	is(t, x, 41, 41, false)
	takes(t, x, part(c, 1, 3, 40, 0, 2, b[0]), wants(c, 3, 1, 41, 41, 40, 1)) // once more: nothing changes
	takes(t, x, part(c, 1, 3, 40, 1, 2, b[1]), wants(c, 3, 1, 41, 41, 40, 0))
	is(t, x, 41, 41, false)
}

// P23.1: a picture is taken wherever its node is not open: as a Join, as a Fresh tail, and where it is neither.
func TestPartRoles(t *testing.T) {
	s, b := twoParts(t, 40)
	for _, c := range []api.Conf{joined(of(1), 3), fresh(of(1, 3)), of(1, 3), of(1, 3, 4), fresh(of(1, 3, 4)), joined(of(1, 3), 4)} {
		x := drawn(t, 3, c)
		takes(t, x, part(c, 1, 3, 40, 0, 2, b[0]), wants(c, 3, 1, 0, 0, 40, 1))
		takes(t, x, part(c, 1, 3, 40, 1, 2, b[1]), wants(c, 3, 1, 40, 40, 40, 0))
		is(t, x, 40, 40, false)
		if !bytes.Equal(x.Store().Picture(), s.Picture()) {
			t.Error(conf.Text(c), "another picture")
		}
	}
}

// P23.1: one that is open takes no part, but acknowledges.
func TestPartOpen(t *testing.T) {
	_, b := twoParts(t, 40)
	c := of(1, 3)
	x := made(t, 3, c)
	fill(t, x, 3, 2)
	takes(t, x, part(c, 1, 3, 40, 0, 2, b[0]), ack(c, 3, 1, 2, 2))
	takes(t, x, part(c, 1, 3, 40, 1, 2, b[1]), ack(c, 3, 1, 2, 2))
	is(t, x, 2, 2, true)
}

// P23.1: what is complete, but no picture, one of another end, or one that is not above the own end, changes no store.
func TestPartWrong(t *testing.T) {
	_, b := twoParts(t, 40)
	all := slices.Concat(b[0], b[1])
	c := joined(of(1), 3)
	none := store.New().Picture()
	for _, p := range []struct {
		at   uint64
		all  []byte
		want uint64
	}{
		{39, all, 0}, {41, all, 0}, {1 << 60, all, 0}, {40, all[:len(all)-1], 0}, {40, append(slices.Clone(all), 0), 0}, {40, nil, 0}, {40, []byte{1, 2}, 0},
		{1 << 63, append([]byte{128}, none[1:]...), 1 << 63}, {40, append([]byte{128}, none[1:]...), 0}, {40, all, 40},
	} {
		x := drawn(t, 3, c)
		cut := min(len(p.all), api.MaxPart)
		takes(t, x, part(c, 1, 3, p.at, 0, 2, p.all[:cut]), wants(c, 3, 1, 0, 0, p.at, 1))
		takes(t, x, part(c, 1, 3, p.at, 1, 2, p.all[cut:]), wants(c, 3, 1, p.want, p.want, p.at, 0))
		is(t, x, p.want, p.want, false)
	}
	for end, want := range map[uint64]uint64{39: 40, 40: 40, 41: 41} { // own ends below the picture's, at it, and above it
		x := drawn(t, 3, c)
		fill(t, x, 3, end)
		before := x.Store()
		x.Take(part(c, 1, 3, 40, 0, 2, b[0]))
		takes(t, x, part(c, 1, 3, 40, 1, 2, b[1]), wants(c, 3, 1, want, want, 40, 0))
		is(t, x, want, want, false)
		if (x.Store() == before) != (end >= 40) {
			t.Error(end, "another store")
		}
	}
	x := drawn(t, 3, c) // a picture of nothing
	takes(t, x, part(c, 1, 3, 0, 0, 1, none), ack(c, 3, 1, 0, 0))
	is(t, x, 0, 0, false)
}

// P23.1: numbers of parts that can't be: nothing is taken, and no picture begins.
func TestPartNumbers(t *testing.T) {
	c := joined(of(1), 3)
	x := drawn(t, 3, c)
	for _, parts := range []uint64{0, 1 << 63, 1<<63 + 1, 1<<63 + 2, math.MaxUint64} {
		takes(t, x, part(c, 1, 3, 40, 0, parts, []byte{1}), ack(c, 3, 1, 0, 0))
	}
	takes(t, x, part(c, 1, 3, 40, 1, 1, []byte{1}), ack(c, 3, 1, 0, 0)) // there is no part 1 of one
	takes(t, x, part(c, 1, 3, 40, 0, math.MaxInt64, []byte{1}), wants(c, 3, 1, 0, 0, 40, 1))
	takes(t, x, part(c, 1, 3, 40, 1, 1<<63+2, []byte{1}), wants(c, 3, 1, 0, 0, 40, 1))
	is(t, x, 0, 0, false)
}

// P23.1: what Succ has received never decreases, also where it is not the truth.
func TestAckGot(t *testing.T) {
	c := of(1, 2)
	x := made(t, 1, c)
	takes(t, x, ack(c, 2, 1, 0, 0), push(c, 1, 2, 0, 0)) // now it is known
	got(t, x, 0, true)
	takes(t, x, ack(c, 2, 1, 0, 0)) // nothing new
	serve(t, x, 1, 6)
	takes(t, x, ack(c, 2, 1, 0, 0))
	takes(t, x, ack(c, 2, 1, 4, 0), push(c, 1, 2, 6, 0, run(5, 6)...))
	got(t, x, 4, true)
	takes(t, x, ack(c, 2, 1, 4, 0)) // not more than it knew
	takes(t, x, ack(c, 2, 1, 2, 0))
	got(t, x, 4, true)
	takes(t, x, ack(c, 2, 1, 6, 0)) // no less than the end
	got(t, x, 6, true)
	takes(t, x, ack(c, 2, 1, 6, 9), wrote(1, 2, 1, api.OK, 1), wrote(1, 3, 2, api.OK, 1), wrote(1, 4, 3, api.OK, 1), wrote(1, 5, 4, api.OK, 2), wrote(1, 6, 5, api.OK, 2), wrote(1, 1, 6, api.OK, 2))
	is(t, x, 6, 6, true)
}

// P23.1: the first acknowledgement is followed by what Succ lacks, also by nothing.
func TestAckFirst(t *testing.T) {
	c := of(1, 2)
	x := made(t, 1, c)
	serve(t, x, 1, 3)
	takes(t, x, ack(c, 2, 1, 3, 0), push(c, 1, 2, 3, 0))
	takes(t, x, ack(c, 2, 1, 3, 0))
	x = made(t, 1, c)
	serve(t, x, 1, 3)
	takes(t, x, ack(c, 2, 1, 0, 0), push(c, 1, 2, 3, 0, run(1, 3)...))
}

// P23.1: what the Join says of done is not heeded, as the tail is done with everything itself; what one of the Nodes says is, up to the own end.
func TestAckDone(t *testing.T) {
	c := of(1, 2, 3)
	x := made(t, 2, c)
	fill(t, x, 2, 5)
	takes(t, x, ack(c, 3, 2, 5, 2), ack(c, 2, 1, 5, 2), push(c, 2, 3, 5, 0))
	is(t, x, 5, 2, true)
	takes(t, x, ack(c, 3, 2, 5, 1)) // it does not decrease
	takes(t, x, ack(c, 3, 2, 5, 2))
	is(t, x, 5, 2, true)
	takes(t, x, ack(c, 3, 2, 5, math.MaxUint64), ack(c, 2, 1, 5, 5))
	is(t, x, 5, 5, true)
	if x.Store().Trim(5) != 0 {
		t.Error("not trimmed")
	}

	x = made(t, 2, c) // one that became the tail, with the Join 4 behind it
	fill(t, x, 2, 5)
	c = later(joined(of(1, 2), 4), 1)
	adopt(t, x, c, ack(c, 2, 1, 5, 5))
	takes(t, x, ack(c, 4, 2, 5, 9), push(c, 2, 4, 5, 5))
	is(t, x, 5, 5, true)
}

// P23.1: where the window no longer has what Succ lacks, the parts of a picture follow, as they are wanted.
func TestAckPicture(t *testing.T) {
	c := joined(of(1), 2)
	x := made(t, 1, c)
	for seq := uint64(1); seq <= 40; seq++ {
		u := at(seq)
		u.Key, u.Data = uint32(seq%20), bytes.Repeat([]byte{byte(seq)}, 50)
		x.Take(ask(c, 1, u))
	}
	if x.Low() != 8 {
		t.Fatal(x.Low())
	}
	_, b := twoParts(t, 40)
	one, two := part(c, 1, 2, 40, 0, 2, b[0]), part(c, 1, 2, 40, 1, 2, b[1])
	takes(t, x, ack(c, 2, 1, 7, 7), one)
	takes(t, x, wants(c, 2, 1, 0, 0, 0, 0), one)
	takes(t, x, wants(c, 2, 1, 0, 0, 39, 1), one) // of another picture
	takes(t, x, wants(c, 2, 1, 0, 0, 40, 1), two)
	takes(t, x, wants(c, 2, 1, 0, 0, 39, 0), two)
	same(t, x.Tick(), two)
	takes(t, x, wants(c, 2, 1, 0, 0, 40, 2), one) // there is no part 2
	takes(t, x, wants(c, 2, 1, 0, 0, 40, 1), two)
	takes(t, x, wants(c, 2, 1, 0, 0, 40, api.MaxSlots), one)
	takes(t, x, wants(c, 2, 1, 0, 0, 40, 1), two)
	takes(t, x, wants(c, 2, 1, 0, 0, 40, 0), one)
	serve(t, x, 1, 42)
	takes(t, x, wants(c, 2, 1, 0, 0, 40, 1), two) // still the same picture
	takes(t, x, ack(c, 2, 1, 40, 40), push(c, 1, 2, 42, 0, run(41, 42)...))
	got(t, x, 40, true)
	serve(t, x, 1, 72)
	same(t, x.Tick(), push(c, 1, 2, 72, 0, run(41, 44)...))
	serve(t, x, 1, 73) // a new one, of the end that is then, and from its part 0, as 41 is gone
	same(t, x.Tick(), part(c, 1, 2, 73, 0, 2, x.Store().Picture()[:api.MaxPart]))
}

// P23.1: the outgoing picture is given up when updates will do, although nothing is passed on by that.
func TestAckGivesUp(t *testing.T) {
	c := joined(of(1), 2)
	x := made(t, 1, c)
	serve(t, x, 1, 40)
	first := x.Store().Picture()
	takes(t, x, ack(c, 2, 1, 0, 0), part(c, 1, 2, 40, 0, 1, first))
	takes(t, x, ack(c, 2, 1, 40, 40))
	serve(t, x, 1, 73)
	second := x.Store().Picture()
	serve(t, x, 1, 80)
	same(t, x.Tick(), part(c, 1, 2, 73, 0, 1, second))
}

// P23.1: Succ may claim more than the replica has; then it gets a picture, since nothing that follows is held.
func TestAckBeyond(t *testing.T) {
	c := of(1, 2)
	x := made(t, 1, c)
	serve(t, x, 1, 3)
	takes(t, x, ack(c, 2, 1, 9, 0), part(c, 1, 2, 3, 0, 1, x.Store().Picture()))
	got(t, x, 9, true)
	takes(t, x, ack(c, 2, 1, 9, 0), part(c, 1, 2, 3, 0, 1, x.Store().Picture()))
	takes(t, x, ack(c, 2, 1, math.MaxUint64, 0), part(c, 1, 2, 3, 0, 1, x.Store().Picture()))
	got(t, x, math.MaxUint64, true)
}

// P23.1: whether the window has what follows is asked before anything is done by the letter, as that may fall out then.
func TestAckBeforeDone(t *testing.T) {
	c := of(1, 2, 3)
	x := made(t, 2, c)
	fill(t, x, 2, 40)
	if x.Low() != 0 {
		t.Fatal(x.Low())
	}
	takes(t, x, ack(c, 3, 2, 0, 0), push(c, 2, 3, 40, 0, run(1, 4)...))
	takes(t, x, ack(c, 3, 2, 0, 20), ack(c, 2, 1, 40, 20)) // nothing is passed on, although 1 is gone now
	if x.Low() != 8 {
		t.Fatal(x.Low())
	}
	takes(t, x, ack(c, 3, 2, 0, 20), part(c, 2, 3, 40, 0, 1, x.Store().Picture()))
	takes(t, x, ack(c, 3, 2, 8, 20), push(c, 2, 3, 40, 0, run(9, 12)...))
	takes(t, x, ack(c, 3, 2, 9, 30), ack(c, 2, 1, 40, 30), push(c, 2, 3, 40, 0, run(10, 13)...))
}

// P23.2: a tick passes on while Succ is not known to have everything, or what it has is not known to be done, or the configuration is Fresh.
func TestTick(t *testing.T) {
	c := of(1, 2)
	x := made(t, 1, c)
	same(t, x.Tick(), push(c, 1, 2, 0, 0)) // it is not known what 2 has
	takes(t, x, ack(c, 2, 1, 0, 0), push(c, 1, 2, 0, 0))
	same(t, x.Tick())
	serve(t, x, 1, 6)
	same(t, x.Tick(), push(c, 1, 2, 6, 0, run(1, 4)...))
	same(t, x.Tick(), push(c, 1, 2, 6, 0, run(1, 4)...))
	x.Take(ack(c, 2, 1, 5, 5))
	same(t, x.Tick(), push(c, 1, 2, 6, 0, at(6)))
	takes(t, x, ack(c, 2, 1, 6, 5))
	same(t, x.Tick(), push(c, 1, 2, 6, 0)) // all received, not all done
	x.Take(ack(c, 2, 1, 6, 6))
	same(t, x.Tick())
	adopt(t, x, later(c, 1))
	same(t, x.Tick(), push(later(c, 1), 1, 2, 6, 6))

	x = made(t, 2, c) // no Succ
	fill(t, x, 2, 3)
	same(t, x.Tick())
	same(t, made(t, 1, of(1)).Tick())
	same(t, made(t, 1, api.Conf{}).Tick())
	same(t, drawn(t, 3, joined(of(1), 3)).Tick())
}

// P23.2: to the Join all is passed on until it has everything, whatever it says of done.
func TestTickJoin(t *testing.T) {
	c := joined(of(1), 2)
	x := made(t, 1, c)
	same(t, x.Tick(), push(c, 1, 2, 0, 0))
	serve(t, x, 1, 2)
	takes(t, x, ack(c, 2, 1, 0, 0), push(c, 1, 2, 2, 0, run(1, 2)...))
	same(t, x.Tick(), push(c, 1, 2, 2, 0, run(1, 2)...))
	takes(t, x, ack(c, 2, 1, 2, 0))
	same(t, x.Tick())
}

// P23.2: in a Fresh configuration each node that has a Succ passes on, so that the tail learns what it must have.
func TestTickFresh(t *testing.T) {
	c := fresh(of(1, 2, 3))
	for node := 1; node <= 2; node++ {
		x := made(t, node, of(1, 2))
		c := later(c, 1)
		adopt(t, x, c)
		x.Take(ack(c, node+1, node, 0, 0))
		same(t, x.Tick(), push(c, node, node+1, 0, 0))
		same(t, x.Tick(), push(c, node, node+1, 0, 0))
		c = later(of(1, 2, 3), 2)
		adopt(t, x, c)
		x.Take(ack(c, node+1, node, 0, 0))
		same(t, x.Tick())
	}
	same(t, drawn(t, 3, c).Tick())
}

// P23.2: the tail whose Join has everything, and is known to have it.
func TestCaught(t *testing.T) {
	c := joined(of(1, 2), 3)
	x := made(t, 2, c)
	caught := func(want bool) {
		t.Helper()
		if x.Caught() != want {
			t.Error("caught:", x.Caught())
		}
	}
	caught(false)
	x.Take(ack(c, 3, 2, 0, 0))
	caught(true)
	fill(t, x, 2, 2)
	caught(false)
	x.Take(ack(c, 3, 2, 1, 1))
	caught(false)
	x.Take(ack(c, 3, 2, 2, 2))
	caught(true)
	x.Take(ack(c, 3, 2, 3, 3)) // more than everything
	caught(false)
	adopt(t, x, later(c, 1))
	caught(false)
	x.Take(ack(later(c, 1), 3, 2, 2, 2))
	caught(true)

	x = made(t, 1, of(1, 2)) // not the tail
	x.Take(ack(of(1, 2), 2, 1, 0, 0))
	got(t, x, 0, true)
	caught(false)
	x = made(t, 2, of(1, 2)) // no Join
	caught(false)
	x = made(t, 1, api.Conf{})
	caught(false)
}

// P23.2: low, as done updates fall out of the window.
func TestLow(t *testing.T) {
	x := made(t, 1, of(1))
	serve(t, x, 1, api.Keep)
	if x.Low() != 0 {
		t.Error(x.Low())
	}
	serve(t, x, 1, api.Keep+5)
	if x.Low() != 5 {
		t.Error(x.Low())
	}
}

// P23.1, P24.2: only what the fence admits has an effect: letters of other chains, epochs, nodes, senders and kinds, and those that are not valid, change nothing, and nothing is sent.
func TestFence(t *testing.T) {
	c := of(1, 2, 3)
	makers := []func() *replica.Replica{
		func() *replica.Replica { x := made(t, 1, c); serve(t, x, 1, 2); return x },
		func() *replica.Replica { x := made(t, 2, c); fill(t, x, 2, 2); return x },
		func() *replica.Replica { x := made(t, 3, c); fill(t, x, 3, 2); return x },
		func() *replica.Replica { x := drawn(t, 4, later(joined(c, 4), 1)); fill(t, x, 4, 2); return x },
		func() *replica.Replica { return made(t, 5, api.Conf{}) },
	}
	admitted := 0
	for i, maker := range makers {
		x := maker()
		for _, l := range letters(c, i+1) {
			end, done, open := x.End(), x.Done(), x.Open()
			sent, tells := x.Take(l), x.Tick()
			if good := fits(x, i+1, l); good {
				admitted++
				x = maker()
			} else if len(sent) != 0 || x.End() != end || x.Done() != done || x.Open() != open {
				t.Errorf("node %d: %+v sends %+v", i+1, l, sent)
			} else {
				same(t, tells, maker().Tick()...)
			}
		}
	}
	if admitted != 9 { // a write of node 1, a push and a part each of nodes 2 to 4, and an acknowledgement each of nodes 1 and 2
		t.Error("admitted are", admitted)
	}
}

// letters are letters of all kinds that a replica may hear of, by all senders, of the configuration's epoch and others; all but a few are not for this node.
func letters(c api.Conf, node int) []api.Letter {
	var l []api.Letter
	for _, e := range []uint64{epoch - 1, epoch, epoch + 1} {
		for _, n := range []int{0, 1, 2} {
			for _, from := range []int{1, 2, 3, 4, 5, 101, 201} {
				for _, to := range []int{node, node%5 + 1, 101} {
					of := api.Conf{Chain: n, Epoch: e, Nodes: c.Nodes}
					one, two := ask(of, to, at(9)), push(of, from, to, 3, 0, at(3))
					one.From = from
					three, four := ack(of, from, to, 2, 2), part(of, from, to, 1<<63, 0, 1, append([]byte{128}, store.New().Picture()[1:]...))
					five := api.Letter{Kind: api.LRead, From: from, To: to, Chain: n, Epoch: e, Num: 1}
					six := api.Letter{Kind: api.LTold, From: from, To: to, Chain: n, Epoch: e, Num: 1}
					seven := api.Letter{Kind: api.LQuery, From: from, To: to, Chain: n, Epoch: e, Num: 1}
					wrong := two
					wrong.Code = 1
					l = append(l, one, two, three, four, five, six, seven, wrong, api.Letter{}, api.Letter{Kind: api.LWrite, From: from, To: to, Chain: n, Epoch: e})
				}
			}
		}
	}
	return l
}

// fits reports whether such a letter is one that the node takes, by the words of the chapters.
func fits(x *replica.Replica, node int, l api.Letter) bool {
	c, r := x.Conf(), x.Role()
	if c.Epoch == 0 || l.To != node || l.Chain != c.Chain || l.Epoch != c.Epoch || l.Code != 0 {
		return false
	}
	switch l.Kind {
	case api.LWrite:
		return r.Head && l.From > api.Clients && len(l.Updates) == 1
	case api.LPush, api.LPart:
		return l.From == r.Pred
	case api.LAck:
		return l.From == r.Succ
	}
	return false
}
