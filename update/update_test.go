package update_test

import (
	"bytes"
	"math"
	"math/rand"
	"testing"

	"catenary/api"
	"catenary/letter"
	"catenary/update"
	"catenary/vers"
)

var (
	noKinds   = []int{0, api.Read, 4, -1, 256 + api.Write, 1<<32 + api.Compare, math.MinInt, math.MaxInt}
	noClients = []int{0, -1, api.MaxClients + 1, api.Clients + 1, 257, 1<<32 + 1, math.MinInt, math.MaxInt}
	most      = bytes.Repeat([]byte{0, 255, 'x', '\n'}, api.MaxValue/4)
	tooMany   = append(bytes.Clone(most), 'y')
)

func write(seq uint64, data string) api.Update {
	return api.Update{Seq: seq, Client: 2, Num: 7, Kind: api.Write, Key: 40, Data: []byte(data)}
}

func compare(seq, ver uint64, data string) api.Update {
	return api.Update{Seq: seq, Client: 6, Num: 1, Kind: api.Compare, Key: 41, Ver: ver, Data: []byte(data)}
}

// seqs returns a write for each of the Seqs, whose data differ.
func seqs(l ...uint64) []api.Update {
	var all []api.Update
	for i, seq := range l {
		all = append(all, write(seq, string(rune('a'+i))))
	}
	return all
}

func same(a, b []api.Update) bool {
	if len(a) != len(b) {
		return false
	}
	for i := range a {
		if !letter.SameUpdate(a[i], b[i]) {
			return false
		}
	}
	return true
}

// copyOf is a deep copy, made without the package.
func copyOf(l []api.Update) []api.Update {
	var all []api.Update
	for _, u := range l {
		u.Data = []byte(string(u.Data))
		all = append(all, u)
	}
	return all
}

// mustOwn checks that what a call made of l shares no memory with it: what is written into one is not in the other, also behind its end.
func mustOwn(t *testing.T, name string, l []api.Update, call func([]api.Update) []api.Update) {
	t.Helper()
	before := copyOf(l)
	got := call(l)
	want := copyOf(got)
	if !same(l, before) {
		t.Error(name, "changes its argument")
	}
	for i := range l {
		for at := range l[i].Data {
			l[i].Data[at]++
		}
		l[i].Num++
	}
	if !same(got, want) {
		t.Error(name, "keeps memory of its argument")
	}
	after := copyOf(l)
	for i := range got {
		for at := range got[i].Data {
			got[i].Data[at] += 2
		}
		got[i].Data = append(got[i].Data, '!')
		got[i].Num += 5
	}
	_ = append(got, write(1, "behind"))
	if !same(l, after) {
		t.Error(name, "gives away memory of its argument")
	}
	for i := range got {
		if len(got[i].Data) != len(want[i].Data)+1 {
			t.Error(name, "has lists that share memory")
		}
		for at, x := range want[i].Data {
			if got[i].Data[at] != x+2 {
				t.Error(name, "has lists that share memory")
			}
		}
	}
}

// P17.1: updates of a chain, and requests, that are valid.
func TestCheckOfValid(t *testing.T) {
	for _, u := range []api.Update{
		write(1, ""), write(9, "data"), write(math.MaxUint64, "x"), write(3, string(most)), compare(1, 0, ""), compare(2, 1, "a"), compare(3, math.MaxUint64, string(most)),
		{Seq: 1, Client: 1, Num: math.MaxUint64, Kind: api.Write, Key: math.MaxUint32}, {Seq: 1, Client: 6, Num: 1, Kind: api.Compare},
	} {
		if e := update.Check(u); e != api.OK {
			t.Error("check of", u.Kind, u.Seq, "is", int(e))
		}
		if e := update.Asked(u); e != api.ErrForm {
			t.Error("a request with a Seq is", int(e))
		}
		u.Seq = 0
		if e := update.Asked(u); e != api.OK {
			t.Error("asked of", u.Kind, "is", int(e))
		}
		if e := update.Check(u); e != api.ErrForm {
			t.Error("an update without a Seq is", int(e))
		}
	}
	for client := 1; client <= api.MaxClients; client++ {
		u := write(1, "a")
		u.Client = client
		if e := update.Check(u); e != api.OK {
			t.Error("client", client, "is", int(e))
		}
	}
}

// P17.1: ErrForm of what is wrong beside the kind and the length.
func TestCheckForm(t *testing.T) {
	bad := []api.Update{
		{Client: 1, Kind: api.Write}, {Client: 1, Kind: api.Compare, Ver: 1}, // no Num
		{Client: 1, Num: 1, Kind: api.Write, Ver: 1}, {Client: 1, Num: 1, Kind: api.Write, Ver: math.MaxUint64},
	}
	for _, client := range noClients {
		bad = append(bad, api.Update{Client: client, Num: 1, Kind: api.Write}, api.Update{Client: client, Num: 1, Kind: api.Compare})
	}
	for _, u := range bad {
		if e := update.Asked(u); e != api.ErrForm {
			t.Error("asked of", u, "is", int(e))
		}
		for _, seq := range []uint64{0, 1, math.MaxUint64} {
			u.Seq = seq
			if e := update.Check(u); e != api.ErrForm {
				t.Error("check of", u, "is", int(e))
			}
		}
	}
}

// P17.1: ErrArg of the kind, then ErrLong of the Data, then ErrForm.
func TestCheckErrorsInOrder(t *testing.T) {
	for _, u := range []api.Update{
		{Seq: 1, Client: 1, Num: 1, Data: []byte("a")}, // nothing else is wrong with an update
		{Client: 1, Num: 1, Data: []byte("a")},         // nothing else is wrong with a request
		{Seq: 1, Client: 1, Num: 1, Data: tooMany},
		{Client: 7, Data: tooMany}, {Ver: 4}, {},
	} {
		for _, kind := range noKinds {
			u.Kind = kind
			if e, f := update.Check(u), update.Asked(u); e != api.ErrArg || f != api.ErrArg {
				t.Error("kind", kind, "is", int(e), int(f))
			}
		}
		for _, kind := range []int{api.Write, api.Compare} {
			u.Kind, u.Data = kind, tooMany
			if e, f := update.Check(u), update.Asked(u); e != api.ErrLong || f != api.ErrLong {
				t.Error("too many bytes for", kind, "are", int(e), int(f))
			}
		}
	}
}

// P17.1: what Check and Asked say is what letters say of the update in them.
func TestCheckIsThatOfLetters(t *testing.T) {
	r := rand.New(rand.NewSource(171))
	good := [2]int{}
	for range 5000 {
		u := api.Update{Seq: uint64(r.Intn(3)), Client: r.Intn(9) - 1, Num: uint64(r.Intn(4)), Kind: r.Intn(6) - 1, Key: r.Uint32(), Ver: uint64(r.Intn(2)), Data: make([]byte, api.MaxValue-2+r.Intn(4))}
		push := api.Letter{Kind: api.LPush, From: 1, To: 2, Epoch: 1, Updates: []api.Update{u}}
		asks := api.Letter{Kind: api.LWrite, From: 201, To: 2, Epoch: 1, Updates: []api.Update{u}}
		if (update.Check(u) == api.OK) != (letter.Check(push) == api.OK) || (update.Asked(u) == api.OK) != (letter.Check(asks) == api.OK) {
			t.Fatal(u.Seq, u.Client, u.Num, u.Kind, u.Ver, len(u.Data), "is", int(update.Check(u)), int(update.Asked(u)))
		}
		if update.Check(u) == api.OK {
			good[0]++
		}
		if update.Asked(u) == api.OK {
			good[1]++
		}
	}
	if good[0] < 50 || good[1] < 50 {
		t.Error("only", good, "were valid")
	}
}

// P17.1: the results of updates, at each edge of the last version and of the room.
func TestOutcome(t *testing.T) {
	const last = math.MaxUint64
	for _, x := range []struct {
		u    api.Update
		ver  uint64
		room bool
		code api.Errno
		want uint64
	}{
		{write(1, "a"), 0, true, api.OK, 1},
		{write(1, "a"), 0, false, api.ErrFull, 0},
		{write(1, "a"), 1, true, api.OK, 2},
		{write(1, "a"), 1, false, api.OK, 2},
		{write(1, "a"), 4, false, api.OK, 5},
		{write(1, "a"), last - 1, true, api.OK, last},
		{write(1, "a"), last - 1, false, api.OK, last},
		{write(1, "a"), last, true, api.ErrFull, last},
		{write(1, "a"), last, false, api.ErrFull, last},
		{compare(1, 0, "a"), 0, true, api.OK, 1},
		{compare(1, 0, "a"), 0, false, api.ErrFull, 0},
		{compare(1, 0, "a"), 1, true, api.ErrMatch, 1},
		{compare(1, 1, "a"), 0, true, api.ErrMatch, 0},
		{compare(1, 1, "a"), 0, false, api.ErrMatch, 0}, // that the version is another one says more than that there is no room
		{compare(1, 3, "a"), 4, true, api.ErrMatch, 4},  // the chapter's example
		{compare(1, 3, "a"), 4, false, api.ErrMatch, 4},
		{compare(1, 5, "a"), 4, true, api.ErrMatch, 4},
		{compare(1, 4, "a"), 4, true, api.OK, 5},
		{compare(1, 4, "a"), 4, false, api.OK, 5},
		{compare(1, last-1, "a"), last - 1, false, api.OK, last},
		{compare(1, last, "a"), last - 1, true, api.ErrMatch, last - 1},
		{compare(1, last, "a"), last, true, api.ErrFull, last},
		{compare(1, last, "a"), last, false, api.ErrFull, last},
		{compare(1, last-1, "a"), last, true, api.ErrMatch, last},
		{compare(1, 0, "a"), last, true, api.ErrMatch, last},
		{api.Update{Kind: api.Write, Ver: 3}, 4, true, api.OK, 5}, // whatever else it has
		{api.Update{Kind: api.Compare, Ver: 4, Data: tooMany, Client: -1}, 4, true, api.OK, 5},
	} {
		code, ver, created := update.Outcome(x.u, x.ver, x.room)
		if code != x.code || ver != x.want || created != (x.code == api.OK) {
			t.Error("kind", x.u.Kind, x.u.Ver, "over", x.ver, x.room, "is", int(code), ver, created, "want", int(x.code), x.want)
		}
	}
}

// P17.1: what is neither a Write nor a Compare creates nothing.
func TestOutcomeOfOtherKinds(t *testing.T) {
	for _, kind := range noKinds {
		for _, ver := range []uint64{0, 1, 4, math.MaxUint64} {
			for _, room := range []bool{false, true} {
				for _, asked := range []uint64{0, ver, ver + 1} {
					code, got, created := update.Outcome(api.Update{Kind: kind, Ver: asked}, ver, room)
					if code != api.ErrArg || got != ver || created {
						t.Error("kind", kind, "over", ver, "is", int(code), got, created)
					}
				}
			}
		}
	}
}

// P17.1: the version that is made, in new memory.
func TestMade(t *testing.T) {
	for _, u := range []api.Update{write(9, "data"), compare(math.MaxUint64, 3, string(tooMany)), write(0, ""), {}} {
		for _, ver := range []uint64{0, 1, 7, math.MaxUint64} {
			if v := update.Made(u, ver); !vers.Same(v, vers.Version{Ver: ver, Seq: u.Seq, Data: u.Data}) {
				t.Error("made", v.Ver, v.Seq, len(v.Data))
			}
		}
	}
	u := write(9, "data")
	v, w := update.Made(u, 4), update.Made(u, 5)
	u.Data[0], v.Data[1] = '!', '?'
	if string(v.Data) != "d?ta" || string(w.Data) != "data" || string(u.Data) != "!ata" {
		t.Errorf("shared: %s %s %s", v.Data, w.Data, u.Data)
	}
}

// P17.2: what is asked by an operation.
func TestRequest(t *testing.T) {
	for _, o := range []api.Op{
		{Kind: api.Write, Key: 7, Data: []byte("abc")}, {Kind: api.Write}, {Kind: api.Write, Key: math.MaxUint32, Data: most, Pick: 4},
		{Kind: api.Compare, Key: 7, Data: []byte("abc")}, {Kind: api.Compare, Ver: 8, Data: []byte{0}, Pick: -1}, {Kind: api.Compare, Ver: math.MaxUint64, Data: most, Pick: math.MaxInt},
	} {
		for _, client := range []int{1, 2, api.MaxClients} {
			for _, num := range []uint64{1, 2, math.MaxUint64} {
				u, e := update.Request(o, client, num)
				want := api.Update{Client: client, Num: num, Kind: o.Kind, Key: o.Key, Ver: o.Ver, Data: o.Data}
				if e != api.OK || !letter.SameUpdate(u, want) {
					t.Error(o.Kind, o.Key, client, num, "is", u, int(e))
				}
				if e := update.Asked(u); e != api.OK {
					t.Error("what is asked is", int(e))
				}
			}
		}
	}
}

// P17.2: the request has new memory.
func TestRequestIsNew(t *testing.T) {
	o := api.Op{Kind: api.Write, Key: 7, Data: []byte("abc")}
	u, _ := update.Request(o, 1, 1)
	w, _ := update.Request(o, 1, 1)
	o.Data[0], u.Data[1] = '!', '?'
	if string(o.Data) != "!bc" || string(u.Data) != "a?c" || string(w.Data) != "abc" {
		t.Errorf("shared: %s %s %s", o.Data, u.Data, w.Data)
	}
}

// P17.2: ErrArg of the kind, then ErrLong of the Data, then ErrForm of the client, the number, and a Write with a Ver.
func TestRequestErrors(t *testing.T) {
	check := func(o api.Op, client int, num uint64, want api.Errno) {
		t.Helper()
		if u, e := update.Request(o, client, num); e != want || !letter.SameUpdate(u, api.Update{}) {
			t.Error("kind", o.Kind, "ver", o.Ver, "client", client, "num", num, "is", u, int(e), "want", int(want))
		}
	}
	for _, kind := range noKinds {
		check(api.Op{Kind: kind, Key: 1, Data: []byte("a")}, 1, 1, api.ErrArg)
		check(api.Op{Kind: kind, Ver: 1, Data: tooMany}, 0, 0, api.ErrArg)
		check(api.Op{Kind: kind, Data: tooMany}, 1, 1, api.ErrArg)
		check(api.Op{Kind: kind}, 9, 1, api.ErrArg)
	}
	for _, kind := range []int{api.Write, api.Compare} {
		check(api.Op{Kind: kind, Data: tooMany}, 1, 1, api.ErrLong)
		check(api.Op{Kind: kind, Data: append(tooMany, tooMany...)}, 1, 1, api.ErrLong)
		check(api.Op{Kind: kind, Data: tooMany, Ver: 1}, 0, 0, api.ErrLong)
		for _, client := range noClients {
			check(api.Op{Kind: kind, Data: []byte("a")}, client, 1, api.ErrForm)
			check(api.Op{Kind: kind}, client, 0, api.ErrForm)
		}
		check(api.Op{Kind: kind, Data: []byte("a")}, 1, 0, api.ErrForm)
	}
	for _, ver := range []uint64{1, 2, math.MaxUint64} {
		check(api.Op{Kind: api.Write, Data: []byte("a"), Ver: ver}, 1, 1, api.ErrForm)
		check(api.Op{Kind: api.Write, Data: []byte("a"), Ver: ver}, 7, 0, api.ErrForm)
	}
}

// P17.2: a copy has everything, whether it is valid or not.
func TestCopy(t *testing.T) {
	for _, l := range [][]api.Update{
		nil, {}, {write(1, "a")}, {compare(9, 1, ""), write(3, "b"), write(3, "b"), {}},
		{{Seq: 1, Client: -1, Num: 0, Kind: 99, Key: math.MaxUint32, Ver: math.MaxUint64, Data: tooMany}}, seqs(0, 9, 1, 1, math.MaxUint64),
	} {
		if got := update.Copy(l); !same(got, l) {
			t.Error(l, "is", got)
		}
		mustOwn(t, "copy", l, update.Copy)
	}
}

// P17.3: which lists run.
func TestRuns(t *testing.T) {
	const last = math.MaxUint64
	for _, x := range []struct {
		seqs  []uint64
		after uint64
		want  bool
	}{
		{nil, 0, true}, {nil, 5, true}, {nil, last, true},
		{[]uint64{1}, 0, true}, {[]uint64{6}, 5, true}, {[]uint64{6, 7, 8}, 5, true}, {[]uint64{last}, last - 1, true}, {[]uint64{last - 1, last}, last - 2, true},
		{[]uint64{0}, 0, false}, {[]uint64{5}, 5, false}, {[]uint64{4}, 5, false}, {[]uint64{7}, 5, false}, {[]uint64{1}, 5, false},
		{[]uint64{6, 6}, 5, false}, {[]uint64{6, 8}, 5, false}, {[]uint64{6, 5}, 5, false}, {[]uint64{7, 8}, 5, false}, {[]uint64{6, 7, 9}, 5, false}, {[]uint64{6, 7, 7}, 5, false}, {[]uint64{6, 7, 6}, 5, false},
		{[]uint64{0}, last, false}, {[]uint64{1}, last, false}, {[]uint64{0, 1}, last, false}, {[]uint64{last, 0}, last - 1, false}, {[]uint64{last, 0, 1}, last - 1, false}, {[]uint64{last, 1}, last - 1, false},
	} {
		l := seqs(x.seqs...)
		before := copyOf(l)
		if got := update.Runs(l, x.after); got != x.want {
			t.Error(x.seqs, "runs from", x.after, "is", got)
		}
		if !same(l, before) {
			t.Error("runs changes its argument")
		}
	}
	if !update.Runs([]api.Update{{Seq: 3, Kind: 9}, {Seq: 4, Client: -1}}, 2) {
		t.Error("the Seqs alone count")
	}
}

// pick returns the elements of l with these indices.
func pick(l []api.Update, at ...int) []api.Update {
	var all []api.Update
	for _, i := range at {
		all = append(all, l[i])
	}
	return all
}

// P17.3: what a batch has of a list.
func TestBatch(t *testing.T) {
	const last = math.MaxUint64
	l := seqs(4, 5, 6, 7, 8, 9)
	mixed := seqs(9, 3, 9, 0, 8, last, 1) // in the order of the list, whatever it is
	for _, x := range []struct {
		l     []api.Update
		after uint64
		most  int
		want  []int
	}{
		{l, 0, 6, []int{0, 1, 2, 3, 4, 5}}, {l, 0, math.MaxInt, []int{0, 1, 2, 3, 4, 5}}, {l, 3, 9, []int{0, 1, 2, 3, 4, 5}},
		{l, 4, 9, []int{1, 2, 3, 4, 5}}, {l, 5, 2, []int{2, 3}}, {l, 5, 1, []int{2}}, {l, 8, 4, []int{5}}, {l, 9, 4, nil}, {l, last, 4, nil},
		{l, 0, 5, []int{0, 1, 2, 3, 4}}, {l, 0, 0, nil}, {l, 0, -1, nil}, {l, 0, math.MinInt, nil},
		{mixed, 0, 9, []int{0, 1, 2, 4, 5, 6}}, {mixed, 3, 9, []int{0, 2, 4, 5}}, {mixed, 3, 3, []int{0, 2, 4}}, {mixed, 9, 1, []int{5}}, {mixed, last - 1, 1, []int{5}}, {mixed, last, 1, nil},
		{nil, 0, 4, nil},
	} {
		if got := update.Batch(x.l, x.after, x.most); !same(got, pick(x.l, x.want...)) {
			t.Error("after", x.after, "at most", x.most, "is", got, "want", x.want)
		}
	}
	mustOwn(t, "batch", l, func(l []api.Update) []api.Update { return update.Batch(l, 5, 3) })
}

// P17.3: what of a list fits; each element has one place.
func TestFits(t *testing.T) {
	const last = math.MaxUint64
	for _, x := range []struct {
		seqs []uint64
		at   uint64
		want []int
	}{
		{nil, 0, nil}, {[]uint64{1, 2, 3}, 0, []int{0, 1, 2}}, {[]uint64{1, 2, 3}, 1, []int{1, 2}}, {[]uint64{1, 2, 3}, 2, []int{2}}, {[]uint64{1, 2, 3}, 3, nil}, {[]uint64{1, 2, 3}, 9, nil},
		{[]uint64{2, 3, 4}, 0, nil}, {[]uint64{3, 2, 1}, 0, []int{2}}, {[]uint64{3, 1, 2}, 0, []int{1, 2}}, {[]uint64{1, 3, 2, 3}, 0, []int{0, 2, 3}},
		{[]uint64{6, 6, 7, 6, 7, 8}, 5, []int{0, 2, 5}}, {[]uint64{9, 6, 9, 7, 9}, 5, []int{1, 3}},
		{[]uint64{0}, 0, nil}, {[]uint64{0, 1}, 0, []int{1}}, {[]uint64{1, 0, 1, 2}, 0, []int{0, 3}},
		{[]uint64{last}, last - 1, []int{0}}, {[]uint64{last, 0, 1}, last - 1, []int{0}}, {[]uint64{0, 1, last}, last, nil}, {[]uint64{last - 1, last, 0}, last - 2, []int{0, 1}},
	} {
		l := seqs(x.seqs...)
		if got := update.Fits(l, x.at); !same(got, pick(l, x.want...)) {
			t.Error("of", x.seqs, "behind", x.at, "fits", got, "want", x.want)
		}
		mustOwn(t, "fits", l, func(l []api.Update) []api.Update { return update.Fits(l, x.at) })
	}
}

// P17.4: what fits runs, and nothing that was left out would have fitted; a list that runs fits, and is a batch.
func TestTheoremOfFits(t *testing.T) {
	r := rand.New(rand.NewSource(174))
	long := 0
	for range 20000 {
		at := uint64(r.Intn(4)) - 2 // also at the greatest numbers
		var l []api.Update
		for range r.Intn(10) {
			l = append(l, write(at+uint64(r.Intn(6)), string(rune('a'+r.Intn(26)))))
		}
		got := update.Fits(l, at)
		if !update.Runs(got, at) {
			t.Fatal("of", l, "fits", got, "behind", at)
		}
		var want []api.Update
		for _, u := range l {
			if u.Seq != 0 && u.Seq == at+uint64(len(want))+1 {
				want = append(want, u)
			}
		}
		if !same(got, want) {
			t.Fatal("of", l, "fits", got, "behind", at, "want", want)
		}
		if update.Runs(l, at) && (!same(got, l) || !same(update.Batch(l, at, len(l)), l)) {
			t.Fatal(l, "runs, but does not fit", got)
		}
		if len(got) > 2 {
			long++
		}
	}
	if long < 100 {
		t.Error("only", long, "were long")
	}
}

// P17.4: a Compare with the version of the last outcome creates one again, as long as there is room.
func TestTheoremOfOutcome(t *testing.T) {
	r := rand.New(rand.NewSource(175))
	for range 2000 {
		ver := uint64(r.Intn(3))
		room := r.Intn(3) > 0
		for range 10 {
			u := compare(1, uint64(r.Intn(12)), "a")
			if r.Intn(2) == 0 {
				u = write(1, "a")
			}
			code, told, created := update.Outcome(u, ver, room)
			if created != (code == api.OK) || created && told != ver+1 || !created && told != ver {
				t.Fatal("over", ver, "is", int(code), told, created)
			}
			ver = told
			code, told, created = update.Outcome(compare(2, ver, "b"), ver, room)
			if full := ver == 0 && !room; created == full || full && (code != api.ErrFull || told != 0) || !full && (code != api.OK || told != ver+1) {
				t.Fatal("a compare with", ver, room, "is", int(code), told, created)
			}
			if created {
				ver = told
			}
		}
	}
}
