package move_test

import (
	"bytes"
	"math"
	"math/rand"
	"testing"

	"catenary/api"
	"catenary/move"
)

// sizes are those at which the number of parts, or the length of the last one, is at an edge.
var sizes = []int{0, 1, 2, api.MaxPart - 1, api.MaxPart, api.MaxPart + 1, 2*api.MaxPart - 1, 2 * api.MaxPart, 2050, 2*api.MaxPart + 1, 7 * api.MaxPart, 100*api.MaxPart + 5}

// picture returns n bytes; those of different parts, and of different pictures, differ.
func picture(seed, n int) []byte {
	b := make([]byte, n)
	for i := range b {
		b[i] = byte(seed + i + i>>8*31)
	}
	return b
}

// count is the number of parts of n bytes.
func count(n int) int {
	return max((n+api.MaxPart-1)/api.MaxPart, 1)
}

// give hands a part of the picture over.
func give(x *move.In, o *move.Out, i int) ([]byte, bool) {
	b, _ := o.Part(i)
	return x.Take(o.At(), i, o.Parts(), b)
}

// state holds x to what it wants, and to how many bytes it holds.
func state(t *testing.T, x *move.In, at uint64, part, held int) {
	t.Helper()
	if a, p := x.Wants(); a != at || p != part || x.Held() != held {
		t.Errorf("wants %d %d, holds %d; not %d %d, %d", a, p, x.Held(), at, part, held)
	}
}

// nothing holds a call of Take to the result of a part that doesn't make a picture complete.
func nothing(t *testing.T, x *move.In, at uint64, part, parts int, b []byte) {
	t.Helper()
	if all, ok := x.Take(at, part, parts, b); len(all) != 0 || ok {
		t.Error(at, part, parts, len(b), "makes", len(all), ok)
	}
}

// P21.1: a picture has the parts that its bytes make, each but the last one of MaxPart bytes.
func TestOut(t *testing.T) {
	for _, n := range sizes {
		b := picture(n, n)
		o := move.New(uint64(n)<<40+7, b)
		if o.At() != uint64(n)<<40+7 || o.Parts() != count(n) {
			t.Error(n, o.At(), o.Parts())
		}
		for i := range count(n) {
			p, ok := o.Part(i)
			if !ok || !bytes.Equal(p, b[i*api.MaxPart:min(n, (i+1)*api.MaxPart)]) {
				t.Error(n, i, len(p), ok)
			}
		}
	}
}

// P21.1: the chapter's example.
func TestExample(t *testing.T) {
	o := move.New(3, picture(0, 2050))
	if o.Parts() != 3 {
		t.Error(o.Parts())
	}
	for i, n := range []int{1024, 1024, 2} {
		if p, ok := o.Part(i); !ok || len(p) != n {
			t.Error(i, len(p), ok)
		}
	}
}

// P21.1: the numbers of parts are from 0 to below how many there are.
func TestPartWrong(t *testing.T) {
	for _, n := range sizes {
		o := move.New(1, picture(0, n))
		for _, i := range []int{math.MinInt, -2, -1, count(n), count(n) + 1, math.MaxInt} {
			if p, ok := o.Part(i); len(p) != 0 || ok {
				t.Error(n, i, len(p), ok)
			}
		}
	}
}

// P21.1: a picture without bytes, nil or not, has one empty part; all numbers are good for a picture.
func TestEmpty(t *testing.T) {
	for _, at := range []uint64{0, 1, math.MaxUint64} {
		for _, b := range [][]byte{nil, {}} {
			o := move.New(at, b)
			if p, ok := o.Part(0); o.At() != at || o.Parts() != 1 || len(p) != 0 || !ok {
				t.Error(at, o.At(), o.Parts(), p, ok)
			}
		}
	}
}

// P21.1, P21.2: nil pictures have nothing, and take nothing.
func TestNil(t *testing.T) {
	var o *move.Out
	if p, ok := o.Part(0); o.At() != 0 || o.Parts() != 0 || p != nil || ok {
		t.Error(o.At(), o.Parts(), p, ok)
	}
	if p, ok := o.Part(-1); p != nil || ok {
		t.Error(p, ok)
	}
	var x *move.In
	state(t, x, 0, 0, 0)
	for _, parts := range []int{0, 1, 2} {
		if all, ok := x.Take(0, 0, parts, []byte("a")); all != nil || ok {
			t.Error(parts, all, ok)
		}
	}
	state(t, x, 0, 0, 0)
}

// P21.2: a new In wants the part 0 of the number 0, and takes it like any other.
func TestBegin(t *testing.T) {
	x := move.Begin()
	state(t, x, 0, 0, 0)
	nothing(t, x, 0, 0, 2, []byte("ab"))
	state(t, x, 0, 1, 2)
	if all, ok := x.Take(0, 1, 2, []byte("c")); string(all) != "abc" || !ok {
		t.Error(all, ok)
	}
	state(t, x, 0, 0, 0)
}

// P21.2: parts are received in their order; the last one completes the picture, of which nothing is held then.
func TestTake(t *testing.T) {
	for _, n := range sizes {
		b := picture(n, n)
		x, o := move.Begin(), move.New(9, b)
		for i := range o.Parts() - 1 {
			if all, ok := give(x, o, i); len(all) != 0 || ok {
				t.Error(n, i, len(all), ok)
			}
			state(t, x, 9, i+1, (i+1)*api.MaxPart)
		}
		if all, ok := give(x, o, o.Parts()-1); !bytes.Equal(all, b) || !ok {
			t.Error(n, len(all), ok)
		}
		state(t, x, 9, 0, 0)
	}
}

// half returns an In that wants the part 2 of four of the picture 5, and holds "abcd".
func half(t *testing.T) *move.In {
	t.Helper()
	x := move.Begin()
	nothing(t, x, 5, 0, 4, []byte("abc"))
	nothing(t, x, 5, 1, 4, []byte("d"))
	state(t, x, 5, 2, 4)
	return x
}

// P21.2: parts that can't be, and those of lesser numbers, change nothing, whatever their number is.
func TestTakeWrong(t *testing.T) {
	long := picture(1, api.MaxPart+1)
	for _, c := range []struct {
		at          uint64
		part, parts int
		b           []byte
	}{
		{5, 0, 0, nil}, {5, 2, 0, nil}, {5, 2, -4, nil}, {5, -2, -1, nil}, {6, 0, 0, nil}, {6, 0, math.MinInt, nil}, {math.MaxUint64, 0, 0, []byte("e")},
		{5, -1, 4, nil}, {5, 4, 4, nil}, {5, 5, 4, nil}, {5, 2, 2, nil}, {5, 2, 1, nil}, {6, -1, 4, nil}, {6, 4, 4, nil}, {6, math.MinInt, 4, nil}, {6, math.MaxInt, math.MaxInt, nil},
		{5, 2, 4, long}, {6, 0, 4, long}, {6, 0, 1, long}, {6, 2, 4, bytes.Repeat(long, 2)},
		{4, 2, 4, []byte("e")}, {4, 0, 4, []byte("e")}, {4, 0, 1, []byte("e")}, {0, 2, 4, nil}, {4, 1, 3, nil}, {4, 0, 0, long},
	} {
		x := half(t)
		nothing(t, x, c.at, c.part, c.parts, c.b)
		state(t, x, 5, 2, 4)
		nothing(t, x, 5, 2, 4, []byte("e"))
		if all, ok := x.Take(5, 3, 4, []byte("f")); string(all) != "abcdef" || !ok {
			t.Error(c, string(all), ok)
		}
	}
}

// P21.2: of the picture that is wanted, the next part alone is received; others change nothing.
func TestTakeOthers(t *testing.T) {
	for _, part := range []int{0, 1, 3} {
		x := half(t)
		nothing(t, x, 5, part, 4, []byte("e"))
		state(t, x, 5, 2, 4)
	}
}

// late is a part that arrives behind another one, and what is wanted and held then.
type late struct {
	at          uint64
	part, parts int
	want, held  int
}

// P21.2: a part of another picture discards what was received; it is received itself if it is the part 0. What follows is held to that picture alone.
func TestTakeNewer(t *testing.T) {
	for _, c := range []struct {
		at          uint64
		part, parts int
		want, held  int
		all         string
		late        late
	}{
		{6, 0, 4, 1, 1, "", late{5, 2, 4, 1, 1}},
		{6, 2, 4, 0, 0, "", late{5, 2, 4, 0, 0}},
		{6, 1, 2, 0, 0, "", late{6, 0, 2, 1, 1}},
		{6, 0, 1, 0, 0, "e", late{5, 0, 1, 0, 0}},
		{5, 0, 3, 1, 1, "", late{5, 1, 3, 2, 2}},
		{5, 2, 3, 0, 0, "", late{5, 0, 3, 1, 1}},
		{5, 2, 5, 0, 0, "", late{5, 2, 4, 0, 0}},
		{5, 3, 5, 0, 0, "", late{5, 0, 4, 1, 1}},
		{5, 0, 1, 0, 0, "e", late{5, 1, 4, 0, 0}},
		{5, 0, math.MaxInt, 1, 1, "", late{5, 0, 4, 1, 1}},
		{5, math.MaxInt - 1, math.MaxInt, 0, 0, "", late{5, 0, 2, 1, 1}},
		{math.MaxUint64, 0, 2, 1, 1, "", late{math.MaxUint64 - 1, 1, 2, 1, 1}},
	} {
		x := half(t)
		if all, ok := x.Take(c.at, c.part, c.parts, []byte("e")); string(all) != c.all || ok != (c.all != "") {
			t.Error(c, string(all), ok)
		}
		state(t, x, c.at, c.want, c.held)
		nothing(t, x, c.late.at, c.late.part, c.late.parts, []byte("l"))
		state(t, x, c.at, c.late.want, c.late.held)
	}
}

// P21.2: how many parts there are is the number with which the part 0 was received, not one of a part that was not.
func TestTakeFirst(t *testing.T) {
	x := move.Begin()
	nothing(t, x, 5, 2, 3, nil)
	nothing(t, x, 5, 1, 9, nil)
	state(t, x, 5, 0, 0)
	nothing(t, x, 5, 0, 2, []byte("a"))
	state(t, x, 5, 1, 1)
	if all, ok := x.Take(5, 1, 2, []byte("b")); string(all) != "ab" || !ok {
		t.Error(all, ok)
	}
}

// P21.2: a complete picture is no longer held, but its number is still wanted: it may come once more, with another number of parts, too.
func TestTakeAgain(t *testing.T) {
	x := move.Begin()
	for range 2 {
		nothing(t, x, 5, 0, 2, []byte("a"))
		if all, ok := x.Take(5, 1, 2, []byte("b")); string(all) != "ab" || !ok {
			t.Error(all, ok)
		}
		state(t, x, 5, 0, 0)
		nothing(t, x, 5, 1, 2, []byte("b"))
		nothing(t, x, 4, 0, 1, []byte("b"))
		state(t, x, 5, 0, 0)
	}
	for range 2 {
		if all, ok := x.Take(5, 0, 1, []byte("c")); string(all) != "c" || !ok {
			t.Error(all, ok)
		}
		state(t, x, 5, 0, 0)
	}
}

// P21.2: parts may have any lengths up to MaxPart, and none at all; an empty picture is complete, too.
func TestTakeLengths(t *testing.T) {
	x := move.Begin()
	if all, ok := x.Take(3, 0, 1, nil); len(all) != 0 || !ok {
		t.Error(all, ok)
	}
	state(t, x, 3, 0, 0)
	full := picture(4, api.MaxPart)
	nothing(t, x, 3, 0, 4, nil)
	state(t, x, 3, 1, 0)
	nothing(t, x, 3, 1, 4, full)
	nothing(t, x, 3, 2, 4, []byte{})
	state(t, x, 3, 3, api.MaxPart)
	if all, ok := x.Take(3, 3, 4, []byte("z")); !bytes.Equal(all, append(bytes.Clone(full), 'z')) || !ok {
		t.Error(len(all), ok)
	}
}

// P21.1, P21.2: neither arguments nor results share memory with a picture, or with each other.
func TestMemory(t *testing.T) {
	b := picture(1, 2050)
	kept := bytes.Clone(b)
	o := move.New(1, b)
	clear(b)
	for range 2 {
		for i := range o.Parts() {
			p, _ := o.Part(i)
			if !bytes.Equal(p, kept[i*api.MaxPart:min(2050, (i+1)*api.MaxPart)]) {
				t.Error("shared", i)
			}
			clear(append(p, 1)[:len(p)])
			clear(p[:cap(p)])
		}
	}
	x := move.Begin()
	for range 2 {
		for i := range o.Parts() {
			p, _ := o.Part(i)
			all, ok := x.Take(1, i, o.Parts(), p)
			clear(p)
			if ok && !bytes.Equal(all, kept) {
				t.Error("shared")
			}
			clear(all[:cap(all)])
		}
	}
}

// model is what was received, word by word.
type model struct {
	at    uint64
	parts int
	got   [][]byte
}

func (m *model) take(at uint64, part, parts int, b []byte) ([]byte, bool) {
	if parts < 1 || part < 0 || part >= parts || len(b) > api.MaxPart || at < m.at {
		return nil, false
	}
	if at > m.at || len(m.got) > 0 && parts != m.parts {
		m.at, m.got = at, nil
	}
	if part != len(m.got) {
		return nil, false
	}
	if part == 0 {
		m.parts = parts
	}
	m.got = append(m.got, bytes.Clone(b))
	if part < parts-1 {
		return nil, false
	}
	all := bytes.Join(m.got, nil)
	m.got = nil
	return all, true
}

// P21.2: any series of parts, beside a model.
func TestModel(t *testing.T) {
	r := rand.New(rand.NewSource(21))
	complete, discarded := 0, 0
	for range 3000 {
		x, m := move.Begin(), &model{}
		for range 60 {
			at, part := m.at, len(m.got)
			parts := max(m.parts, 1)
			if len(m.got) == 0 {
				parts = 1 + r.Intn(5)
			}
			switch r.Intn(12) {
			case 0:
				at += uint64(r.Intn(3)) - min(1, at)
			case 1:
				part += r.Intn(4) - 2
			case 2:
				parts += r.Intn(3) - 1
			}
			b := picture(r.Intn(256), r.Intn(9))
			if r.Intn(40) == 0 {
				b = picture(1, api.MaxPart+r.Intn(2))
			}
			before := len(m.got)
			all, ok := x.Take(at, part, parts, b)
			want, good := m.take(at, part, parts, b)
			if ok != good || !bytes.Equal(all, want) {
				t.Fatal(at, part, parts, all, ok, want, good)
			}
			if good {
				complete++
			} else if before > 1 && len(m.got) < 2 {
				discarded++
			}
			state(t, x, m.at, len(m.got), len(bytes.Join(m.got, nil)))
			if t.Failed() {
				return
			}
		}
	}
	if complete < 1000 || discarded < 1000 {
		t.Error("hardly any picture was complete, or discarded", complete, discarded)
	}
}

// P21.3: a picture whose parts arrive in order, each some times, with parts of lesser numbers in between, is returned once, unchanged. (One of a single part is complete whenever that arrives.)
func TestTheorem(t *testing.T) {
	r := rand.New(rand.NewSource(213))
	for range 300 {
		at := 1 + uint64(r.Intn(50))
		b := picture(r.Intn(256), api.MaxPart+1+r.Intn(6*api.MaxPart))
		o, x := move.New(at, b), move.Begin()
		lesser := move.New(at-1-uint64(r.Intn(int(at))), picture(r.Intn(256), r.Intn(4*api.MaxPart)))
		for range r.Intn(4) {
			give(x, lesser, r.Intn(lesser.Parts()))
		}
		returned := 0
		for i := range o.Parts() {
			for range 1 + r.Intn(3) {
				all, ok := give(x, o, i)
				if ok && !bytes.Equal(all, b) {
					t.Fatal("changed", len(all), len(b))
				}
				if ok {
					returned++
				}
				if all, ok := give(x, lesser, r.Intn(lesser.Parts())); ok {
					t.Fatal("a lesser one", len(all))
				}
			}
		}
		if returned != 1 {
			t.Fatal(len(b), "returned", returned)
		}
	}
}
