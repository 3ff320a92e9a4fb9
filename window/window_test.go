package window_test

import (
	"bytes"
	"math"
	"math/rand"
	"testing"

	"catenary/api"
	"catenary/letter"
	"catenary/window"
)

// at returns the valid update of that number; its data tell the number.
func at(seq uint64) api.Update {
	return api.Update{Seq: seq, Client: 1, Num: seq, Kind: api.Write, Key: 7, Data: []byte{byte(seq), byte(seq >> 8)}}
}

// filled returns a window after low, with the updates up to end.
func filled(t *testing.T, low, end uint64) *window.Window {
	t.Helper()
	w := window.New(low)
	for seq := low; seq < end; seq++ {
		if e := w.Add(at(seq + 1)); e != api.OK {
			t.Fatal(seq, e)
		}
	}
	return w
}

// are reports whether l is the updates after from, up to to.
func are(l []api.Update, from, to uint64) bool {
	for i, u := range l {
		if !letter.SameUpdate(u, at(from+uint64(i)+1)) {
			return false
		}
	}
	return uint64(len(l)) == to-from
}

// numbers holds a window to its low number, its end, and done, and to what follows from them.
func numbers(t *testing.T, w *window.Window, low, end, done uint64) {
	t.Helper()
	if w.Low() != low || w.End() != end || w.Done() != done {
		t.Errorf("%d %d %d, not %d %d %d", w.Low(), w.End(), w.Done(), low, end, done)
	}
	if w.Dirty() != int(end-done) || w.Held() != int(end-low) || w.Room() != (end-done < api.MaxDirty) {
		t.Errorf("%d %d %v", w.Dirty(), w.Held(), w.Room())
	}
	if l, ok := w.From(low, math.MaxInt); !ok || !are(l, low, end) {
		t.Errorf("held: %v %v", l, ok)
	}
}

// P20.1, P20.2: a new window holds nothing, whatever number it begins at.
func TestNew(t *testing.T) {
	for _, n := range []uint64{0, 1, 5, 31, 32, 33, 1 << 63, math.MaxUint64 - 1, math.MaxUint64} {
		w := window.New(n)
		numbers(t, w, n, n, n)
		if w.Reach(math.MaxUint64) != nil || w.Reach(n) != nil || w.Reach(0) != nil {
			t.Error(n, "reaches")
		}
		numbers(t, w, n, n, n)
	}
}

// P20.1, P20.2: the chapter's example.
func TestExample(t *testing.T) {
	w := filled(t, 5, 7)
	numbers(t, w, 5, 7, 5)
	if l := w.Reach(6); !are(l, 5, 6) {
		t.Error(l)
	}
	numbers(t, w, 5, 7, 6)
	if w.Dirty() != 1 {
		t.Error(w.Dirty())
	}
}

// P20.1: the next update alone is added; one that is not changes nothing.
func TestAdd(t *testing.T) {
	w := filled(t, 5, 7)
	for _, seq := range []uint64{1, 5, 6, 7, 9, 10, 1 << 63, math.MaxUint64} {
		if e := w.Add(at(seq)); e != api.ErrState {
			t.Error(seq, e)
		}
	}
	numbers(t, w, 5, 7, 5)
	if e := w.Add(at(8)); e != api.OK {
		t.Error(e)
	}
	numbers(t, w, 5, 8, 5)
}

// P20.1: the greatest number is an end like others; nothing follows it.
func TestAddAtTheEndOfNumbers(t *testing.T) {
	w := window.New(math.MaxUint64 - 1)
	if e := w.Add(at(math.MaxUint64)); e != api.OK {
		t.Error(e)
	}
	for _, seq := range []uint64{0, 1, math.MaxUint64 - 1, math.MaxUint64} {
		want := api.ErrState
		if seq == 0 {
			want = api.ErrForm
		}
		if e := w.Add(at(seq)); e != want {
			t.Error(seq, e)
		}
	}
	numbers(t, w, math.MaxUint64-1, math.MaxUint64, math.MaxUint64-1)
	if l := w.Reach(math.MaxUint64); !are(l, math.MaxUint64-1, math.MaxUint64) {
		t.Error(l)
	}
	numbers(t, w, math.MaxUint64-1, math.MaxUint64, math.MaxUint64)
}

// P20.1: updates that are not valid are told by the error of update.Check, before their number is looked at; they change nothing.
func TestAddWrong(t *testing.T) {
	w := filled(t, 5, 7)
	for _, x := range []struct {
		change func(u *api.Update)
		want   api.Errno
	}{
		{func(u *api.Update) { u.Kind = api.Read }, api.ErrArg},
		{func(u *api.Update) { u.Kind, u.Data = 0, make([]byte, api.MaxValue+1) }, api.ErrArg},
		{func(u *api.Update) { u.Data = make([]byte, api.MaxValue+1) }, api.ErrLong},
		{func(u *api.Update) { u.Data, u.Client = make([]byte, api.MaxValue+1), 0 }, api.ErrLong},
		{func(u *api.Update) { u.Seq = 0 }, api.ErrForm},
		{func(u *api.Update) { u.Client = 7 }, api.ErrForm},
		{func(u *api.Update) { u.Num = 0 }, api.ErrForm},
		{func(u *api.Update) { u.Ver = 1 }, api.ErrForm},
	} {
		for _, seq := range []uint64{8, 7, 9} {
			u := at(seq)
			x.change(&u)
			if e := w.Add(u); e != x.want {
				t.Error(u.Seq, x.want, e)
			}
		}
	}
	numbers(t, w, 5, 7, 5)
	u := at(8)
	u.Kind, u.Ver, u.Data = api.Compare, 9, make([]byte, api.MaxValue)
	if e := w.Add(u); e != api.OK {
		t.Error(e)
	}
	if l := w.Reach(8); len(l) != 3 || !letter.SameUpdate(l[2], u) {
		t.Error(l)
	}
}

// P20.1: done is never lessened, and never above the end; what becomes done is returned once.
func TestReach(t *testing.T) {
	w := filled(t, 5, 11)
	for _, x := range []struct{ done, from, to uint64 }{
		{0, 5, 5}, {5, 5, 5}, {6, 5, 6}, {6, 6, 6}, {5, 6, 6}, {9, 6, 9}, {8, 9, 9}, {0, 9, 9}, {math.MaxUint64, 9, 11}, {math.MaxUint64, 11, 11}, {12, 11, 11},
	} {
		if l := w.Reach(x.done); !are(l, x.from, x.to) {
			t.Error(x.done, l)
		}
		numbers(t, w, 5, 11, x.to)
	}
	w.Add(at(12)) // that the end was reached does not make the next one done
	numbers(t, w, 5, 12, 11)
}

// P20.1: of the done updates, those that are among the last Keep of all stay.
func TestLow(t *testing.T) {
	w := filled(t, 5, 5+api.Keep)
	w.Reach(5 + api.Keep)
	numbers(t, w, 5, 5+api.Keep, 5+api.Keep)
	w.Add(at(6 + api.Keep)) // what is done falls out as the end increases
	numbers(t, w, 6, 6+api.Keep, 5+api.Keep)
	w.Reach(6 + api.Keep)
	numbers(t, w, 6, 6+api.Keep, 6+api.Keep)
	for seq := uint64(7 + api.Keep); seq <= 5+2*api.Keep; seq++ {
		w.Add(at(seq))
	}
	numbers(t, w, 5+api.Keep, 5+2*api.Keep, 6+api.Keep)
	w.Add(at(6 + 2*api.Keep))
	numbers(t, w, 6+api.Keep, 6+2*api.Keep, 6+api.Keep)
	w.Add(at(7 + 2*api.Keep)) // what is not done stays, however far behind
	numbers(t, w, 6+api.Keep, 7+2*api.Keep, 6+api.Keep)
	w.Reach(7 + api.Keep)
	numbers(t, w, 7+api.Keep, 7+2*api.Keep, 7+api.Keep)
	w.Reach(math.MaxUint64)
	numbers(t, w, 7+api.Keep, 7+2*api.Keep, 7+2*api.Keep)
}

// P20.1: where the end is below Keep, nothing falls out; behind a great number, only what is held can.
func TestLowNearTheBeginning(t *testing.T) {
	w := filled(t, 0, api.Keep-1)
	w.Reach(api.Keep - 1)
	numbers(t, w, 0, api.Keep-1, api.Keep-1)
	w.Add(at(api.Keep))
	numbers(t, w, 0, api.Keep, api.Keep-1)
	w.Add(at(api.Keep + 1))
	numbers(t, w, 1, api.Keep+1, api.Keep-1)
	w = filled(t, 1000, 1003)
	w.Reach(1002)
	numbers(t, w, 1000, 1003, 1002)
}

// P20.2: the updates after a number, as many as asked for; nothing where some of them are gone, or the number is above the end.
func TestFrom(t *testing.T) {
	w := filled(t, 5, 5+api.Keep)
	w.Reach(5 + api.Keep)
	w.Add(at(6 + api.Keep))
	low, end := uint64(6), uint64(6+api.Keep)
	for _, x := range []struct {
		got  uint64
		most int
		to   uint64
		ok   bool
	}{
		{0, 4, 0, false}, {low - 1, 4, low - 1, false}, {low, 4, low + 4, true}, {low, 0, low, true}, {low, -1, low, true}, {low, math.MinInt, low, true}, {low, 1, low + 1, true},
		{low, api.Keep, end, true}, {low, api.Keep - 1, end - 1, true}, {low, math.MaxInt, end, true}, {low + 3, 2, low + 5, true},
		{end - 1, 4, end, true}, {end, 4, end, true}, {end, 0, end, true}, {end + 1, 4, end + 1, false}, {math.MaxUint64, 4, math.MaxUint64, false},
	} {
		l, ok := w.From(x.got, x.most)
		if ok != x.ok || !are(l, x.got, max(x.to, x.got)) {
			t.Error(x.got, x.most, l, ok)
		}
	}
	numbers(t, w, low, end, end-1)
}

// P20.2: there is room for MaxDirty updates that are not done; the window itself takes more of them.
func TestRoom(t *testing.T) {
	w := filled(t, 9, 9+api.MaxDirty-1)
	if !w.Room() || w.Dirty() != api.MaxDirty-1 {
		t.Error(w.Dirty())
	}
	w.Add(at(9 + api.MaxDirty))
	if w.Room() || w.Dirty() != api.MaxDirty {
		t.Error(w.Dirty())
	}
	w.Add(at(10 + api.MaxDirty))
	numbers(t, w, 9, 10+api.MaxDirty, 9)
	w.Reach(10)
	numbers(t, w, 9, 10+api.MaxDirty, 10)
	w.Reach(11)
	numbers(t, w, 9, 10+api.MaxDirty, 11)
}

// P20.1, P20.2: a nil window does nothing.
func TestNil(t *testing.T) {
	var w *window.Window
	if e := w.Add(at(1)); e != api.ErrNil {
		t.Error(e)
	}
	if e := w.Add(api.Update{}); e != api.ErrNil {
		t.Error(e)
	}
	if l, ok := w.From(0, 4); l != nil || ok {
		t.Error(l, ok)
	}
	if w.Reach(0) != nil || w.Reach(math.MaxUint64) != nil || w.Low() != 0 || w.End() != 0 || w.Done() != 0 || w.Dirty() != 0 || w.Room() || w.Held() != 0 {
		t.Error("a nil window answers")
	}
}

// P20.2: neither what is added nor what is returned shares memory with the window, or with another element of a result.
func TestMemory(t *testing.T) {
	w := window.New(5)
	u := at(6)
	w.Add(u)
	u.Data[0] = 99
	w.Add(at(7))
	w.Add(at(8))
	spoil := func(l []api.Update) {
		for i := range l {
			if !bytes.Equal(l[i].Data, at(l[i].Seq).Data) {
				t.Error("shared", l[i])
			}
			l[i].Data[0] = 99
			l[i].Data = append(l[i].Data[:cap(l[i].Data)], 99)
			l[i].Seq = 99
		}
		if len(l) > 0 {
			_ = append(l[:1], at(98))
		}
	}
	for range 2 {
		l, _ := w.From(5, 9)
		spoil(l)
		l, _ = w.From(6, 1)
		spoil(l)
	}
	spoil(w.Reach(7))
	spoil(w.Reach(8))
	numbers(t, w, 5, 8, 8)
}

// model is a window kept in full: every update that was ever added, with the definitions taken word by word.
type model struct {
	low, end, done uint64
}

func (m *model) settle() {
	behind := uint64(0)
	if m.end >= api.Keep {
		behind = m.end - api.Keep
	}
	m.low = max(m.low, min(m.done, behind))
}

// P20.1 to P20.3: any series of calls, beside a model; each update is returned as done exactly once, in order, and no more is held than Keep updates and those that are not done.
func TestTheorem(t *testing.T) {
	r := rand.New(rand.NewSource(20))
	fell := 0
	for range 100 {
		begin := uint64(r.Intn(100))
		w, m := window.New(begin), model{begin, begin, begin}
		var all []api.Update
		for range 400 {
			switch r.Intn(4) {
			case 0:
				done := m.done + uint64(r.Intn(6)) - min(2, m.done)
				all = append(all, w.Reach(done)...)
				m.done = max(m.done, min(done, m.end))
			case 1:
				seq := m.end + uint64(r.Intn(4))
				if e := w.Add(at(seq + 1)); (e == api.OK) != (seq == m.end) {
					t.Fatal(seq, m.end, e)
				} else if e == api.OK {
					m.end++
				}
			default:
				w.Add(at(m.end + 1))
				m.end++
			}
			m.settle()
			if w.Held() > api.Keep+w.Dirty() || w.Low() > w.Done() || w.Done() > w.End() {
				t.Fatal(w.Held(), w.Low(), w.Done(), w.End())
			}
			numbers(t, w, m.low, m.end, m.done)
		}
		if m.low > begin {
			fell++
		}
		all = append(all, w.Reach(m.end)...)
		if !are(all, begin, m.end) {
			t.Fatal("not each one once", begin, m.end, len(all))
		}
		if t.Failed() {
			return
		}
	}
	if fell < 50 {
		t.Error("hardly any update fell out", fell)
	}
}

// P20.1: many updates that are not done are held as well as few.
func TestMany(t *testing.T) {
	w := window.New(0)
	for seq := range uint64(50000) {
		w.Add(at(seq + 1))
	}
	if l := w.Reach(40000); !are(l, 0, 40000) {
		t.Error(len(l))
	}
	numbers(t, w, 40000, 50000, 40000)
	if l := w.Reach(50000); !are(l, 40000, 50000) {
		t.Error(len(l))
	}
	numbers(t, w, 50000-api.Keep, 50000, 50000)
}
