package sess_test

import (
	"bytes"
	"math"
	"math/rand"
	"slices"
	"testing"

	"catenary/api"
	"catenary/fix"
	"catenary/sess"
)

// noClients are numbers that no client has.
var noClients = []int{0, -1, 7, 8, 201, 256, 257, 1 << 32, 1<<32 + 1, math.MinInt, math.MinInt + 1, math.MaxInt}

const (
	rowBytes = 26
	enough   = 1000
)

func row(client int, num, seq uint64, code api.Errno, ver uint64) sess.Row {
	return sess.Row{Client: client, Num: num, Seq: seq, Code: code, Ver: ver}
}

// table returns a table with these rows.
func table(t *testing.T, rows ...sess.Row) *sess.Table {
	t.Helper()
	x := sess.New()
	for _, r := range rows {
		if e := x.Set(r); e != api.OK {
			t.Fatal("set", r, "is", int(e))
		}
	}
	return x
}

// mustHave holds all that is told of rows against these, which are in the order of clients.
func mustHave(t *testing.T, x *sess.Table, want ...sess.Row) {
	t.Helper()
	if x.Len() != len(want) || !slices.Equal(x.All(), want) {
		t.Error("there are", x.Len(), "rows", x.All(), "want", want)
	}
	left := want
	for client := 1; client <= api.MaxClients; client++ {
		var r sess.Row
		has := len(left) > 0 && left[0].Client == client
		if has {
			r, left = left[0], left[1:]
		}
		if got, ok := x.Get(client); got != r || ok != has {
			t.Error("the row of", client, "is", got, ok, "want", r, has)
		}
	}
}

// put returns the bytes of the table.
func put(t *testing.T, x *sess.Table) []byte {
	t.Helper()
	o := fix.New(enough)
	x.Put(o)
	b, e := o.Done()
	if e != api.OK {
		t.Fatal("put is", int(e))
	}
	return b
}

// raw returns the bytes of rows, whatever they are, behind that number.
func raw(n uint64, rows ...sess.Row) []byte {
	o := fix.New(enough)
	o.Put(n, 1)
	for _, r := range rows {
		o.Put(uint64(r.Client), 1)
		o.Put(r.Num, 8)
		o.Put(r.Seq, 8)
		o.Put(uint64(r.Code), 1)
		o.Put(r.Ver, 8)
	}
	b, _ := o.Done()
	return b
}

// P16.1: there are no rows, so each request of a client is Fresh.
func TestNew(t *testing.T) {
	x := sess.New()
	mustHave(t, x)
	for client := 1; client <= api.MaxClients; client++ {
		for _, num := range []uint64{1, 2, math.MaxUint64} {
			if got := x.Judge(client, num); got != sess.Fresh {
				t.Error("judge", client, num, "is", got)
			}
		}
	}
	other := sess.New()
	x.Set(row(1, 1, 1, api.OK, 1))
	mustHave(t, other)
}

// P16.1: the results of Judge are numbers of their own.
func TestJudgeNumbers(t *testing.T) {
	if sess.Fresh != 0 || sess.Again != 1 || sess.Old != 2 {
		t.Error(sess.Fresh, sess.Again, sess.Old)
	}
}

// P16.1: what Judge says around the Num of a row, which is that of its client alone.
func TestJudge(t *testing.T) {
	x := table(t, row(1, 5, 1, api.OK, 0), row(3, 1, 2, api.OK, 0), row(6, math.MaxUint64, 3, api.OK, 0))
	for _, c := range []struct {
		client int
		num    uint64
		want   int
	}{
		{1, 6, sess.Fresh}, {1, 5, sess.Again}, {1, 4, sess.Old}, {1, 1, sess.Old}, {1, 7, sess.Fresh}, {1, math.MaxUint64, sess.Fresh}, {1, 0, sess.Old},
		{2, 1, sess.Fresh}, {2, 5, sess.Fresh}, {2, 0, sess.Old}, {5, 4, sess.Fresh}, {5, 0, sess.Old},
		{3, 1, sess.Again}, {3, 2, sess.Fresh}, {3, 0, sess.Old},
		{6, math.MaxUint64, sess.Again}, {6, math.MaxUint64 - 1, sess.Old}, {6, 1, sess.Old}, {6, 0, sess.Old},
	} {
		if got := x.Judge(c.client, c.num); got != c.want {
			t.Error("judge", c.client, c.num, "is", got, "want", c.want)
		}
	}
	mustHave(t, x, row(1, 5, 1, api.OK, 0), row(3, 1, 2, api.OK, 0), row(6, math.MaxUint64, 3, api.OK, 0))
}

// P16.1: whatever somebody asks who is no client is Old; a number that no request has, too.
func TestJudgeOfNobody(t *testing.T) {
	for _, x := range []*sess.Table{sess.New(), table(t, row(1, 1, 1, api.OK, 0), row(6, 2, 2, api.OK, 0))} {
		for _, client := range noClients {
			for _, num := range []uint64{0, 1, 2, math.MaxUint64} {
				if got := x.Judge(client, num); got != sess.Old {
					t.Error("judge", client, num, "is", got)
				}
			}
			if r, ok := x.Get(client); r != (sess.Row{}) || ok {
				t.Error("the row of", client, "is", r, ok)
			}
		}
		for client := 1; client <= api.MaxClients; client++ {
			if got := x.Judge(client, 0); got != sess.Old {
				t.Error("judge", client, 0, "is", got)
			}
		}
	}
}

// P16.1: rows of all clients, each set in any order, and replaced by those with a greater Num.
func TestSet(t *testing.T) {
	x := sess.New()
	a, b, c := row(4, 3, 9, api.ErrMatch, 7), row(6, 1, 1, 255, math.MaxUint64), row(1, math.MaxUint64, math.MaxUint64, api.OK, 0)
	for _, step := range []struct {
		set  sess.Row
		want []sess.Row
	}{
		{a, []sess.Row{a}}, {b, []sess.Row{a, b}}, {c, []sess.Row{c, a, b}},
		{row(4, 4, 10, api.OK, 8), []sess.Row{c, row(4, 4, 10, api.OK, 8), b}},
		{row(4, 9, 2, api.ErrFull, 0), []sess.Row{c, row(4, 9, 2, api.ErrFull, 0), b}}, // a Seq may be any
		{row(6, math.MaxUint64, 1, 1, 1), []sess.Row{c, row(4, 9, 2, api.ErrFull, 0), row(6, math.MaxUint64, 1, 1, 1)}},
	} {
		if e := x.Set(step.set); e != api.OK {
			t.Fatal("set", step.set, "is", int(e))
		}
		mustHave(t, x, step.want...)
	}
	var all []sess.Row
	full := sess.New()
	for client := 1; client <= api.MaxClients; client++ {
		r := row(client, uint64(client), uint64(client+10), api.Errno(client), uint64(client+20))
		all = append(all, r)
		full.Set(r)
		mustHave(t, full, all...)
	}
}

// P16.1: ErrArg of a row that is not valid, then ErrState of a Num that is not Fresh; and an error changes nothing.
func TestSetErrors(t *testing.T) {
	has := []sess.Row{row(1, 5, 7, api.ErrMatch, 3), row(6, math.MaxUint64, 8, api.OK, 1)}
	x := table(t, has...)
	check := func(r sess.Row, want api.Errno) {
		t.Helper()
		if e := x.Set(r); e != want {
			t.Error("set", r, "is", int(e), "want", int(want))
		}
		mustHave(t, x, has...)
	}
	for _, client := range noClients {
		check(row(client, 1, 1, api.OK, 0), api.ErrArg)
	}
	for _, num := range []uint64{0, 1, 5, 6} {
		check(row(1, num, 0, api.OK, 0), api.ErrArg)
		for _, code := range []api.Errno{-1, 256, 257, 511, 1 << 32, math.MinInt, math.MaxInt} {
			check(row(1, num, 1, code, 0), api.ErrArg)
		}
	}
	for _, client := range []int{1, 2, 6} {
		check(row(client, 0, 1, api.OK, 0), api.ErrArg)
	}
	check(sess.Row{}, api.ErrArg)
	for _, num := range []uint64{1, 4, 5} {
		check(row(1, num, 9, api.OK, 9), api.ErrState)
		check(row(1, num, 7, api.ErrMatch, 3), api.ErrState)
	}
	for _, num := range []uint64{1, math.MaxUint64 - 1, math.MaxUint64} {
		check(row(6, num, 9, api.OK, 9), api.ErrState)
	}
}

// P16.1: the chapter's example.
func TestExample(t *testing.T) {
	x := table(t, row(2, 5, 1, api.OK, 1))
	if x.Judge(2, 6) != sess.Fresh || x.Judge(2, 5) != sess.Again || x.Judge(2, 4) != sess.Old {
		t.Error(x.Judge(2, 6), x.Judge(2, 5), x.Judge(2, 4))
	}
}

// P16.1: the list that All returns is new memory.
func TestAllIsNew(t *testing.T) {
	has := []sess.Row{row(2, 5, 7, api.ErrMatch, 3), row(3, 1, 8, api.OK, 1)}
	x := table(t, has...)
	l, other := x.All(), x.All()
	l[0] = row(5, 1, 1, 1, 1)
	_ = append(l[:1], row(6, 1, 1, 1, 1))
	mustHave(t, x, has...)
	if !slices.Equal(other, has) {
		t.Error("two lists share memory", other)
	}
}

// P16.2: the bytes of tables.
func TestPut(t *testing.T) {
	for _, x := range []struct {
		rows []sess.Row
		want string
	}{
		{nil, "\x00"},
		{[]sess.Row{row(3, 258, 0x0102030405060708, 11, 5)}, "\x01\x03\x00\x00\x00\x00\x00\x00\x01\x02\x01\x02\x03\x04\x05\x06\x07\x08\x0b\x00\x00\x00\x00\x00\x00\x00\x05"},
		{[]sess.Row{row(6, 1, 2, 255, math.MaxUint64), row(1, math.MaxUint64, 3, 0, 0)},
			"\x02\x01\xff\xff\xff\xff\xff\xff\xff\xff\x00\x00\x00\x00\x00\x00\x00\x03\x00\x00\x00\x00\x00\x00\x00\x00\x00" +
				"\x06\x00\x00\x00\x00\x00\x00\x00\x01\x00\x00\x00\x00\x00\x00\x00\x02\xff\xff\xff\xff\xff\xff\xff\xff\xff"},
	} {
		if b := put(t, table(t, x.rows...)); string(b) != x.want {
			t.Errorf("%v is % x; want % x", x.rows, b, x.want)
		}
	}
}

// P16.2: Put appends to what there is, and the Out keeps what goes wrong.
func TestPutBehindOthers(t *testing.T) {
	x := table(t, row(3, 1, 1, 1, 1))
	o := fix.New(2*rowBytes + 4)
	o.Raw([]byte("ab"))
	x.Put(o)
	x.Put(o)
	if b, e := o.Done(); e != api.OK || string(b) != "ab"+string(put(t, x))+string(put(t, x)) {
		t.Errorf("behind others: % x, %d", b, int(e))
	}
	for most := range rowBytes + 1 {
		o := fix.New(most)
		x.Put(o)
		if b, e := o.Done(); len(b) != 0 || e != api.ErrLong {
			t.Error("into", most, "bytes is", b, int(e))
		}
	}
	failed := fix.New(enough)
	failed.Put(256, 1)
	x.Put(failed)
	if b, e := failed.Done(); len(b) != 0 || e != api.ErrForm {
		t.Error("into one that has failed is", b, int(e))
	}
	x.Put(nil)
	mustHave(t, x, row(3, 1, 1, 1, 1))
}

// P16.2: what is read from bytes that are right; what follows the table stays.
func TestRead(t *testing.T) {
	for _, rows := range [][]sess.Row{
		nil,
		{row(1, 1, 1, 0, 0)},
		{row(6, math.MaxUint64, math.MaxUint64, 255, math.MaxUint64)},
		{row(2, 5, 9, 11, 4), row(4, 258, 3, 9, 0)},
		{row(1, 9, 9, 0, 1), row(2, 8, 9, 0, 1), row(3, 7, 8, 0, 1), row(4, 6, 7, 0, 1), row(5, 5, 6, 0, 1), row(6, 4, 5, 0, 1)},
	} {
		i := fix.Of(append(raw(uint64(len(rows)), rows...), 'x', 'y'))
		x, e := sess.Read(i)
		if e != api.OK {
			t.Fatal(rows, "is", int(e))
		}
		mustHave(t, x, rows...)
		if i.Left() != 2 || string(i.Raw(2)) != "xy" || i.Done() != api.OK {
			t.Error("behind", rows, "is", i.Left(), int(i.Done()))
		}
	}
}

func mustFail(t *testing.T, name string, i *fix.In, want api.Errno) {
	t.Helper()
	if x, e := sess.Read(i); x != nil || e != want {
		t.Errorf("%s: %v, %d; want %d", name, x, int(e), int(want))
	}
}

// P16.2: the errors of the In: none is there, it has failed ahead, it has too many rows, or it ends too early.
func TestReadErrorsOfTheIn(t *testing.T) {
	mustFail(t, "nil", nil, api.ErrNil)
	failed := fix.Of([]byte{0, 2, 0, 0, 0})
	failed.Get(9)
	mustFail(t, "failed ahead", failed, api.ErrArg)
	wrong := fix.Of(append([]byte{9}, raw(1, row(1, 1, 1, 1, 1))...))
	wrong.Bool()
	mustFail(t, "failed ahead", wrong, api.ErrForm)
	mustFail(t, "no bytes", fix.Of(nil), api.ErrShort)
	rows := []sess.Row{row(1, 1, 1, 1, 1), row(2, 1, 1, 1, 1), row(3, 1, 1, 1, 1), row(4, 1, 1, 1, 1), row(5, 1, 1, 1, 1), row(6, 1, 1, 1, 1)}
	for _, n := range []uint64{7, 8, 128, 255} {
		mustFail(t, "too many", fix.Of(raw(n)), api.ErrForm)
		i := fix.Of(raw(n, append(rows, rows...)...))
		mustFail(t, "too many, with bytes", i, api.ErrForm)
	}
	for n := range len(rows) + 1 {
		b := raw(uint64(n), rows[:n]...)
		for end := range b {
			mustFail(t, "too short", fix.Of(b[:end]), api.ErrShort)
		}
	}
}

// P16.2: ErrForm of rows that are not valid, or whose clients don't increase.
func TestReadErrorsOfRows(t *testing.T) {
	good := row(3, 5, 5, 5, 5)
	for _, bad := range []sess.Row{row(0, 1, 1, 0, 0), row(7, 1, 1, 0, 0), row(255, 1, 1, 0, 0), row(4, 0, 1, 0, 0), row(4, 1, 0, 0, 0), {}} {
		mustFail(t, "alone", fix.Of(raw(1, bad)), api.ErrForm)
		mustFail(t, "behind a good one", fix.Of(raw(2, good, bad)), api.ErrForm)
		mustFail(t, "ahead of a good one", fix.Of(raw(2, bad, row(5, 1, 1, 0, 0))), api.ErrForm)
	}
	for _, next := range []sess.Row{good, row(3, 6, 6, 6, 6), row(3, 4, 6, 6, 6), row(2, 6, 6, 6, 6), row(1, 1, 1, 0, 0)} {
		mustFail(t, "clients that don't increase", fix.Of(raw(2, good, next)), api.ErrForm)
		mustFail(t, "clients that don't increase", fix.Of(raw(3, good, next, row(6, 1, 1, 0, 0))), api.ErrForm)
		mustFail(t, "clients that don't increase", fix.Of(raw(3, row(1, 1, 1, 0, 0), row(6, 1, 1, 0, 0), next)), api.ErrForm)
	}
}

// P16.2: that bytes are missing comes ahead of what is wrong with a row.
func TestReadErrorsInOrder(t *testing.T) {
	b := raw(2, sess.Row{}, row(1, 1, 1, 1, 1))
	mustFail(t, "all bytes", fix.Of(b), api.ErrForm)
	for end := 1; end < len(b); end++ {
		mustFail(t, "a wrong row, then too short", fix.Of(b[:end]), api.ErrShort)
	}
	i := fix.Of(append(b, 'x'))
	mustFail(t, "a wrong row", i, api.ErrForm)
	if i.Err() != api.OK || i.Left() != 1 {
		t.Error("all bytes of the table have been read:", int(i.Err()), i.Left())
	}
}

// P16.1, P16.2: what is asked of a nil table.
func TestNil(t *testing.T) {
	var x *sess.Table
	for _, client := range append(noClients, 1, 6) {
		for _, num := range []uint64{0, 1, math.MaxUint64} {
			if got := x.Judge(client, num); got != sess.Old {
				t.Error("judge is", got)
			}
			if e := x.Set(row(client, num, 1, 0, 0)); e != api.ErrNil {
				t.Error("set is", int(e))
			}
		}
		if r, ok := x.Get(client); r != (sess.Row{}) || ok {
			t.Error("get is", r, ok)
		}
	}
	if x.Len() != 0 || len(x.All()) != 0 {
		t.Error(x.Len(), x.All())
	}
	o := fix.New(9)
	o.Raw([]byte("a"))
	x.Put(o)
	x.Put(nil)
	if b, e := o.Done(); string(b) != "a" || e != api.OK {
		t.Error("put is", b, int(e))
	}
}

// randomRow returns a row whose Num is often near that of the client.
func randomRow(r *rand.Rand, x *sess.Table) sess.Row {
	client := r.Intn(api.MaxClients + 2)
	has, _ := x.Get(client)
	return row(client, has.Num+uint64(r.Intn(5)-2), uint64(r.Intn(9)), api.Errno(r.Intn(260)-2), r.Uint64())
}

// P16.3: the Num of a client only increases; what is put is read unchanged.
func TestTheorem(t *testing.T) {
	r := rand.New(rand.NewSource(16))
	for range 200 {
		x := sess.New()
		for range r.Intn(60) {
			s := randomRow(r, x)
			before, has := x.Get(s.Client)
			judged := x.Judge(s.Client, s.Num)
			e := x.Set(s)
			after, _ := x.Get(s.Client)
			if e == api.OK && (after != s || has && s.Num <= before.Num || judged != sess.Fresh) || e != api.OK && after != before {
				t.Fatal("set", s, "over", before, "is", int(e), "and there is", after)
			}
		}
		b := put(t, x)
		i := fix.Of(b)
		y, e := sess.Read(i)
		if e != api.OK || i.Done() != api.OK {
			t.Fatal(x.All(), "is read with", int(e), int(i.Done()))
		}
		mustHave(t, y, x.All()...)
		if !bytes.Equal(put(t, y), b) || len(b) != 1+x.Len()*rowBytes {
			t.Fatal(x.All(), "has other bytes")
		}
	}
}

// P16.2: what is read from any bytes is put as the same ones.
func TestReadRandomBytes(t *testing.T) {
	r := rand.New(rand.NewSource(162))
	read := 0
	for range 20000 {
		var rows []sess.Row
		for client := 1; client <= api.MaxClients; client++ {
			if r.Intn(2) == 0 {
				rows = append(rows, row(client, uint64(1+r.Intn(3)), uint64(1+r.Intn(3)), api.Errno(r.Intn(256)), r.Uint64()))
			}
		}
		b := raw(uint64(len(rows)), rows...)
		for range r.Intn(3) {
			b[r.Intn(len(b))] = byte(r.Intn(8))
		}
		i := fix.Of(b)
		x, e := sess.Read(i)
		if e != api.OK {
			if x != nil {
				t.Fatal("beside an error:", x)
			}
			continue
		}
		read++
		if got := put(t, x); !bytes.Equal(got, b[:len(b)-i.Left()]) {
			t.Fatalf("% x is put as % x", b, got)
		}
	}
	if read < 5000 {
		t.Error("only", read, "were read")
	}
}
