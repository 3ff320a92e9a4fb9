package vers_test

import (
	"bytes"
	"math"
	"math/rand"
	"testing"

	"catenary/api"
	"catenary/vers"
)

func of(ver, seq uint64, data string) vers.Version {
	return vers.Version{Ver: ver, Seq: seq, Data: []byte(data)}
}

// block returns a block into which the versions were put.
func block(t *testing.T, l ...vers.Version) *vers.Block {
	t.Helper()
	b := vers.New()
	for _, v := range l {
		if e := b.Put(v); e != api.OK {
			t.Fatal("put", v.Ver, v.Seq, "is", int(e))
		}
	}
	return b
}

// example is the block of the chapter's example.
func example(t *testing.T) *vers.Block {
	t.Helper()
	return block(t, of(1, 4, "one"), of(2, 9, "two"))
}

func mustBe(t *testing.T, name string, got, want vers.Version) {
	t.Helper()
	if got.Ver != want.Ver || got.Seq != want.Seq || string(got.Data) != string(want.Data) {
		t.Errorf("%s is %d (%d) %q; want %d (%d) %q", name, got.Ver, got.Seq, got.Data, want.Ver, want.Seq, want.Data)
	}
}

// mustHave holds all that is told without a done against the versions.
func mustHave(t *testing.T, b *vers.Block, want ...vers.Version) {
	t.Helper()
	l := b.List()
	if b.Len() != len(want) || len(l) != len(want) {
		t.Fatal("there are", b.Len(), "versions,", len(l), "in the list; want", len(want))
	}
	last := vers.Version{}
	for i, v := range want {
		mustBe(t, "a version of the list", l[i], v)
		last = v
	}
	mustBe(t, "the last one", b.Last(), last)
}

// P15.1: there are no versions.
func TestNew(t *testing.T) {
	b := vers.New()
	mustHave(t, b)
	for _, done := range []uint64{0, 1, math.MaxUint64} {
		mustBe(t, "the clean one", b.Clean(done), vers.Version{})
		for _, ver := range []uint64{0, 1, math.MaxUint64} {
			mustBe(t, "the picked one", b.Pick(ver, done), vers.Version{})
		}
		if b.Dirty(done) || b.Trim(done) != 0 {
			t.Error("dirty, or trimmed, for", done)
		}
	}
	other := vers.New()
	block := vers.New()
	if e := block.Put(of(1, 1, "")); e != api.OK || other.Len() != 0 {
		t.Error("two blocks share versions", int(e), other.Len())
	}
}

// P15.1: the first version may have any Ver and any Seq but 0.
func TestPutFirst(t *testing.T) {
	for _, v := range []vers.Version{of(1, 1, ""), of(1, 9, "a"), of(7, 1, "b"), of(math.MaxUint64, 1, ""), of(1, math.MaxUint64, ""), of(math.MaxUint64, math.MaxUint64, "c")} {
		mustHave(t, block(t, v), v)
	}
}

// P15.1: further ones follow each other by their Ver, and have a greater Seq.
func TestPutFurther(t *testing.T) {
	l := []vers.Version{of(7, 3, "a"), of(8, 4, ""), of(9, 100, "c"), of(10, math.MaxUint64-1, "d"), of(11, math.MaxUint64, "e")}
	b := vers.New()
	for i, v := range l {
		if e := b.Put(v); e != api.OK {
			t.Fatal(v, int(e))
		}
		mustHave(t, b, l[:i+1]...)
	}
	up := []vers.Version{of(math.MaxUint64-1, 1, ""), of(math.MaxUint64, 2, "")}
	mustHave(t, block(t, up...), up...)
}

// P15.1: Data of up to MaxValue bytes are kept, whatever they are.
func TestPutData(t *testing.T) {
	long := string(bytes.Repeat([]byte{0, 255, 'x', '\n'}, api.MaxValue/4))
	v, w := of(1, 1, long), of(2, 2, long[:api.MaxValue-1])
	mustHave(t, block(t, v, w, of(3, 3, "")), v, w, of(3, 3, ""))
	b := vers.New()
	if e := b.Put(vers.Version{Ver: 1, Seq: 1}); e != api.OK || b.Len() != 1 {
		t.Error("no Data:", int(e))
	}
}

// P15.1: ErrLong of Data, then ErrArg of a number that is 0, then ErrState; and an error changes nothing.
func TestPutErrors(t *testing.T) {
	long := string(make([]byte, api.MaxValue+1))
	last := of(5, 20, "z")
	filled := []vers.Version{of(4, 10, "y"), last}
	for _, x := range []struct {
		name string
		v    vers.Version
		want api.Errno // of a block that has versions
		new  api.Errno // of one that has none
	}{
		{"long", of(6, 21, long), api.ErrLong, api.ErrLong},
		{"much longer", of(6, 21, long+long), api.ErrLong, api.ErrLong},
		{"long, no Ver", of(0, 21, long), api.ErrLong, api.ErrLong},
		{"long, no Seq", of(6, 0, long), api.ErrLong, api.ErrLong},
		{"long, of no place", of(4, 21, long), api.ErrLong, api.ErrLong},
		{"no Ver", of(0, 21, ""), api.ErrArg, api.ErrArg},
		{"no Seq", of(6, 0, "a"), api.ErrArg, api.ErrArg},
		{"neither", vers.Version{}, api.ErrArg, api.ErrArg},
		{"no Seq, of no place", of(9, 0, ""), api.ErrArg, api.ErrArg},
		{"the same", last, api.ErrState, api.OK},
		{"the same Ver", of(5, 21, "a"), api.ErrState, api.OK},
		{"the Ver ahead", of(4, 21, "a"), api.ErrState, api.OK},
		{"a Ver left out", of(7, 21, "a"), api.ErrState, api.OK},
		{"the first Ver", of(1, 21, "a"), api.ErrState, api.OK},
		{"the greatest Ver", of(math.MaxUint64, 21, "a"), api.ErrState, api.OK},
		{"the same Seq", of(6, 20, "a"), api.ErrState, api.OK},
		{"a lesser Seq", of(6, 19, "a"), api.ErrState, api.OK},
		{"the least Seq", of(6, 1, "a"), api.ErrState, api.OK},
	} {
		b := block(t, filled...)
		if e := b.Put(x.v); e != x.want {
			t.Errorf("%s: %d; want %d", x.name, int(e), int(x.want))
		}
		mustHave(t, b, filled...)
		if e := b.Put(of(6, 21, "a")); e != api.OK {
			t.Errorf("%s: what fits behind it is %d", x.name, int(e))
		}
		b = vers.New()
		if e := b.Put(x.v); e != x.new || (b.Len() == 0) == (e == api.OK) {
			t.Errorf("%s, as the first: %d; want %d", x.name, int(e), int(x.new))
		}
	}
}

// P15.1: nothing stands behind the greatest numbers.
func TestPutBehindTheGreatest(t *testing.T) {
	b := block(t, of(math.MaxUint64, 1, "a"))
	for want, l := range map[api.Errno][]vers.Version{
		api.ErrArg:   {of(0, 2, "")}, // the number that wraps round
		api.ErrState: {of(1, 2, ""), of(math.MaxUint64, 2, ""), of(math.MaxUint64-1, 2, "")},
	} {
		for _, v := range l {
			if e := b.Put(v); e != want {
				t.Error(v.Ver, "is", int(e), "want", int(want))
			}
		}
	}
	b = block(t, of(1, math.MaxUint64, "a"))
	for _, seq := range []uint64{1, math.MaxUint64 - 1, math.MaxUint64} {
		if e := b.Put(of(2, seq, "")); e != api.ErrState {
			t.Error(seq, "is", int(e))
		}
	}
	mustHave(t, b, of(1, math.MaxUint64, "a"))
}

// P15.2: the clean version and the dirty block, at each edge of done.
func TestCleanAndDirty(t *testing.T) {
	one, two, three := of(6, 4, "one"), of(7, 9, "two"), of(8, 10, "three")
	b := block(t, one, two, three)
	for _, x := range []struct {
		done  uint64
		clean vers.Version
		dirty bool
	}{
		{0, vers.Version{}, true}, {1, vers.Version{}, true}, {3, vers.Version{}, true}, {4, one, true}, {5, one, true}, {8, one, true},
		{9, two, true}, {10, three, false}, {11, three, false}, {math.MaxUint64, three, false},
	} {
		mustBe(t, "the clean one", b.Clean(x.done), x.clean)
		if b.Dirty(x.done) != x.dirty {
			t.Error("dirty for", x.done, "is", !x.dirty)
		}
		mustHave(t, b, one, two, three)
	}
	last := block(t, of(1, math.MaxUint64, "a"))
	if !last.Dirty(math.MaxUint64-1) || last.Dirty(math.MaxUint64) || last.Clean(math.MaxUint64).Ver != 1 || last.Clean(math.MaxUint64-1).Ver != 0 {
		t.Error("at the greatest Seq")
	}
}

// P15.2: the example of the chapter.
func TestExample(t *testing.T) {
	b := example(t)
	if !b.Dirty(6) {
		t.Error("not dirty")
	}
	mustBe(t, "the clean one", b.Clean(6), of(1, 4, "one"))
}

// P15.2: the version with that Ver, clean or dirty; else the clean one, if that is a later one.
func TestPick(t *testing.T) {
	five, six, seven, none := of(5, 10, "five"), of(6, 20, "six"), of(7, 30, "seven"), vers.Version{}
	b := block(t, five, six, seven)
	for _, x := range []struct {
		ver, done uint64
		want      vers.Version
	}{
		{5, 0, five}, {6, 0, six}, {7, 0, seven}, {5, 10, five}, {7, 10, seven}, {5, 30, five}, {6, math.MaxUint64, six},
		{4, 0, none}, {4, 9, none}, {4, 10, five}, {4, 19, five}, {4, 20, six}, {4, 30, seven}, {4, math.MaxUint64, seven},
		{0, 9, none}, {0, 10, five}, {0, 29, six}, {1, 10, five}, {1, 30, seven},
		{8, 0, none}, {8, 30, none}, {8, math.MaxUint64, none}, {math.MaxUint64, 30, none}, {math.MaxUint64, 0, none},
	} {
		mustBe(t, "the picked one", b.Pick(x.ver, x.done), x.want)
	}
	b.Trim(20)
	mustBe(t, "one that was trimmed", b.Pick(5, 20), six)
	mustBe(t, "one that was trimmed", b.Pick(5, 30), seven)
	mustBe(t, "one that was trimmed, for a lesser done", b.Pick(5, 19), none)
	mustBe(t, "one that was not", b.Pick(6, 0), six)
}

// P15.3: all versions ahead of the clean one are removed, and counted.
func TestTrim(t *testing.T) {
	l := []vers.Version{of(1, 4, "one"), of(2, 9, "two"), of(3, 10, "three"), of(4, 20, "four")}
	for _, x := range []struct {
		done    uint64
		removed int
	}{{0, 0}, {3, 0}, {4, 0}, {8, 0}, {9, 1}, {10, 2}, {19, 2}, {20, 3}, {21, 3}, {math.MaxUint64, 3}} {
		b := block(t, l...)
		if n := b.Trim(x.done); n != x.removed {
			t.Error("trim for", x.done, "is", n, "want", x.removed)
		}
		mustHave(t, b, l[x.removed:]...)
		if n := b.Trim(x.done); n != 0 {
			t.Error("trim once more for", x.done, "is", n)
		}
		mustHave(t, b, l[x.removed:]...)
		if e := b.Put(of(5, 21, "five")); e != api.OK {
			t.Error("put behind a trim is", int(e))
		}
		mustHave(t, b, append(l[x.removed:len(l):len(l)], of(5, 21, "five"))...)
	}
}

// P15.3: step by step, the versions go one after the other, and those for a lesser done stay gone.
func TestTrimAgain(t *testing.T) {
	b := example(t)
	if b.Trim(9) != 1 || b.Trim(4) != 0 || b.Len() != 1 {
		t.Error("not trimmed")
	}
	mustBe(t, "the clean one for a lesser done", b.Clean(4), vers.Version{})
	if e := b.Put(of(2, 10, "")); e != api.ErrState {
		t.Error("a Ver that there is, is", int(e))
	}
	if e := b.Put(of(1, 10, "")); e != api.ErrState {
		t.Error("a Ver that was trimmed is", int(e))
	}
	if b.Put(of(3, 10, "three")) != api.OK || b.Put(of(4, 11, "four")) != api.OK || b.Trim(11) != 2 {
		t.Error("not trimmed again")
	}
	mustHave(t, b, of(4, 11, "four"))
}

// P15.3: equal are versions with the same numbers and the same data.
func TestSame(t *testing.T) {
	l := []vers.Version{{}, of(1, 1, ""), of(1, 1, "a"), of(1, 1, "b"), of(1, 1, "ab"), of(1, 2, "a"), of(2, 1, "a"), of(2, 2, "a"), of(0, 0, "a"), of(math.MaxUint64, 1, "a")}
	for i, x := range l {
		for j, y := range l {
			y.Data = bytes.Clone(y.Data)
			if vers.Same(x, y) != (i == j) {
				t.Error(x, y, "are the same:", i != j)
			}
		}
	}
	if !vers.Same(vers.Version{Ver: 1, Seq: 1}, of(1, 1, "")) || !vers.Same(of(1, 1, ""), vers.Version{Ver: 1, Seq: 1}) {
		t.Error("no data and empty data are not the same")
	}
}

// P15.1 to P15.3: what is asked of a nil block.
func TestNil(t *testing.T) {
	var b *vers.Block
	for _, v := range []vers.Version{{}, of(1, 1, "a"), of(0, 1, string(make([]byte, api.MaxValue+1)))} {
		if e := b.Put(v); e != api.ErrNil {
			t.Error("put is", int(e))
		}
	}
	mustHave(t, b)
	for _, done := range []uint64{0, 1, math.MaxUint64} {
		mustBe(t, "the clean one", b.Clean(done), vers.Version{})
		mustBe(t, "the picked one", b.Pick(done, done), vers.Version{})
		if b.Dirty(done) || b.Trim(done) != 0 {
			t.Error("dirty, or trimmed")
		}
	}
}

// spoil changes the data, and what might lie behind them.
func spoil(v vers.Version) {
	for i := range v.Data {
		v.Data[i] = '!'
	}
	_ = append(v.Data, "!!!!"...)
}

// P15.1 to P15.3: arguments are copied and left as they are, and results are new memory.
func TestMemory(t *testing.T) {
	data := []byte("oneX")
	v := vers.Version{Ver: 1, Seq: 4, Data: data[:3]}
	b := vers.New()
	b.Put(v)
	if string(data) != "oneX" {
		t.Error("an argument was changed")
	}
	spoil(v)
	b.Put(of(2, 9, "two"))
	b.Put(of(3, 10, "three"))
	l := b.List()
	spoil(l[0])
	mustBe(t, "the next one of the list", l[1], of(2, 9, "two"))
	l[2] = vers.Version{}
	_ = append(l[:1], l[2])
	spoil(b.Last())
	spoil(b.Clean(4))
	spoil(b.Clean(9))
	spoil(b.Pick(2, 0))
	spoil(b.Pick(0, 10))
	mustHave(t, b, of(1, 4, "one"), of(2, 9, "two"), of(3, 10, "three"))
	first, second := b.List(), b.List()
	b.Trim(10)
	spoil(first[2])
	mustHave(t, b, of(3, 10, "three"))
	mustBe(t, "one of another list", second[2], of(3, 10, "three"))
	mustBe(t, "one told ahead of the trim", second[0], of(1, 4, "one"))
}

// model is a block as the chapter's words have it, without any search.
type model []vers.Version

func (m model) last() vers.Version {
	if len(m) == 0 {
		return vers.Version{}
	}
	return m[len(m)-1]
}

func (m model) clean(done uint64) vers.Version {
	var clean vers.Version
	for _, v := range m {
		if v.Seq <= done {
			clean = v
		}
	}
	return clean
}

func (m model) pick(ver, done uint64) vers.Version {
	for _, v := range m {
		if v.Ver == ver {
			return v
		}
	}
	if m.clean(done).Ver > ver {
		return m.clean(done)
	}
	return vers.Version{}
}

func (m model) trim(done uint64) model {
	var kept model
	for _, v := range m {
		if v.Ver >= m.clean(done).Ver {
			kept = append(kept, v)
		}
	}
	return kept
}

// random returns a version that may follow the last one, or nearly so.
func random(r *rand.Rand, last vers.Version) vers.Version {
	data := make([]byte, r.Intn(4))
	r.Read(data)
	v := vers.Version{Ver: last.Ver + 1, Seq: last.Seq + uint64(r.Intn(4)), Data: data}
	switch r.Intn(10) {
	case 0:
		v.Ver--
	case 1:
		v.Ver += uint64(1 + r.Intn(3))
	}
	return v
}

// P15.1 to P15.3: random calls against the model.
func TestRandomCalls(t *testing.T) {
	r := rand.New(rand.NewSource(15))
	for range 200 {
		b := vers.New()
		var m model
		for range 60 {
			v := random(r, m.last())
			good := v.Ver > 0 && v.Seq > 0 && (len(m) == 0 || v.Ver == m.last().Ver+1 && v.Seq > m.last().Seq)
			if e := b.Put(v); (e == api.OK) != good {
				t.Fatal("put", v, "behind", m.last(), "is", int(e))
			}
			if good {
				m = append(m, v)
			}
			done := max(m.last().Seq, 10) - 10 + uint64(r.Intn(13))
			mustBe(t, "the clean one", b.Clean(done), m.clean(done))
			ver := max(m.last().Ver, 10) - 10 + uint64(r.Intn(13))
			mustBe(t, "the picked one", b.Pick(ver, done), m.pick(ver, done))
			if b.Dirty(done) != (m.last().Seq > done) {
				t.Fatal("dirty for", done)
			}
			if r.Intn(10) == 0 {
				kept := m.trim(done)
				if n := b.Trim(done); n != len(m)-len(kept) {
					t.Fatal("trim for", done, "is", n, "want", len(m)-len(kept))
				}
				m = kept
			}
			mustHave(t, b, m...)
		}
	}
}

// P15.4: Trim changes neither Last, nor Clean and Dirty for that done or a greater one.
func TestTrimTheorem(t *testing.T) {
	r := rand.New(rand.NewSource(154))
	for range 300 {
		b, same := vers.New(), vers.New()
		var last vers.Version
		for range r.Intn(12) {
			last = vers.Version{Ver: last.Ver + 1, Seq: last.Seq + 1 + uint64(r.Intn(5)), Data: []byte{byte(r.Intn(256))}}
			b.Put(last)
			same.Put(last)
		}
		done := uint64(r.Intn(int(last.Seq) + 3))
		b.Trim(done)
		mustBe(t, "the last one", b.Last(), same.Last())
		for later := done; later <= last.Seq+2; later++ {
			mustBe(t, "the clean one", b.Clean(later), same.Clean(later))
			if b.Dirty(later) != same.Dirty(later) {
				t.Fatal("dirty for", later, "behind a trim for", done)
			}
		}
		mustBe(t, "the clean one", b.Clean(math.MaxUint64), same.Clean(math.MaxUint64))
	}
}
