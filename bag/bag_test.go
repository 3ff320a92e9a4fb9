package bag_test

import (
	"math"
	"math/rand"
	"slices"
	"testing"

	"catenary/api"
	"catenary/bag"
)

// numbered is an item with its number, as a bag gives it.
type numbered struct {
	no int
	v  string
}

// filled returns a bag for at most most items that has these.
func filled(t *testing.T, most int, items ...string) *bag.Bag[string] {
	t.Helper()
	b := bag.New[string](most)
	for k, v := range items {
		if no, e := b.Put(v); no != k+1 || e != api.OK {
			t.Fatal("Put", v, no, int(e))
		}
	}
	return b
}

// has tells what a bag has, by All.
func has(b *bag.Bag[string]) []numbered {
	var l []numbered
	for no, v := range b.All() {
		l = append(l, numbered{no, v})
	}
	return l
}

// wantHas holds all that tells what a bag has against the items.
func wantHas(t *testing.T, name string, b *bag.Bag[string], last int, want ...numbered) {
	t.Helper()
	if got := has(b); !slices.Equal(got, want) {
		t.Errorf("%s: has %v; want %v", name, got, want)
	}
	if b.Len() != len(want) || b.Last() != last {
		t.Errorf("%s: Len %d, Last %d; want %d, %d", name, b.Len(), b.Last(), len(want), last)
	}
	for i, x := range want {
		if v, ok := b.At(i); v != x.v || !ok || b.No(i) != x.no {
			t.Errorf("%s: at %d: %q, %v, number %d", name, i, v, ok, b.No(i))
		}
	}
}

// noIndex are indices that a bag of n items has not.
func noIndex(n int) []int {
	return []int{-1, n, n + 1, math.MinInt, math.MaxInt}
}

// P6.1: a new bag is empty, and has room for as many as stated.
func TestNew(t *testing.T) {
	for _, most := range []int{math.MinInt, -1, 0, 1, 3, math.MaxInt} {
		b := bag.New[string](most)
		wantHas(t, "new", b, 0)
		room := max(0, min(most, 5))
		for k := range room {
			if no, e := b.Put("x"); no != k+1 || e != api.OK {
				t.Error("Put", k, "of", most, "is", no, int(e))
			}
		}
		if no, e := b.Put("y"); most < 5 && (no != 0 || e != api.ErrFull) {
			t.Error("Put beyond", most, "is", no, int(e))
		}
	}
}

// P6.1: items are numbered from 1; a number that was given is not given again, and none is used up by an error.
func TestPut(t *testing.T) {
	b := filled(t, 3, "a", "b", "c")
	wantHas(t, "three", b, 3, numbered{1, "a"}, numbered{2, "b"}, numbered{3, "c"})
	for range 2 {
		if no, e := b.Put("d"); no != 0 || e != api.ErrFull {
			t.Error("Put beyond most", no, int(e))
		}
	}
	wantHas(t, "full", b, 3, numbered{1, "a"}, numbered{2, "b"}, numbered{3, "c"})
	b.Take(2)
	wantHas(t, "the last one taken", b, 3, numbered{1, "a"}, numbered{2, "b"})
	if no, e := b.Put("e"); no != 4 || e != api.OK {
		t.Error("Put where there is room again", no, int(e))
	}
	wantHas(t, "room again", b, 4, numbered{1, "a"}, numbered{2, "b"}, numbered{4, "e"})
	for b.Len() > 0 {
		b.Take(0)
	}
	wantHas(t, "emptied", b, 4)
	if no, e := b.Put("f"); no != 5 || e != api.OK {
		t.Error("Put into what was emptied", no, int(e))
	}
}

// P6.1: an item once more, with a number of its own.
func TestTwice(t *testing.T) {
	b := filled(t, 5, "a", "b")
	if no, e := b.Twice(0); no != 3 || e != api.OK {
		t.Error("of the first", no, int(e))
	}
	if no, e := b.Twice(2); no != 4 || e != api.OK {
		t.Error("of the new one", no, int(e))
	}
	b.Take(1)
	if no, e := b.Twice(2); no != 5 || e != api.OK {
		t.Error("where there is room again", no, int(e))
	}
	want := []numbered{{1, "a"}, {3, "a"}, {4, "a"}, {5, "a"}}
	wantHas(t, "twice", b, 5, want...)
	b.Set(0, "x")
	wantHas(t, "each on its own", b, 5, append([]numbered{{1, "x"}}, want[1:]...)...)
}

// P6.1: ErrNone ahead of ErrFull; no error changes anything.
func TestTwiceErrors(t *testing.T) {
	for _, most := range []int{2, 3} {
		b := filled(t, most, "a", "b")
		for _, i := range noIndex(2) {
			if no, e := b.Twice(i); no != 0 || e != api.ErrNone {
				t.Error("of", i, no, int(e))
			}
		}
		wantHas(t, "none", b, 2, numbered{1, "a"}, numbered{2, "b"})
	}
	b := filled(t, 2, "a", "b")
	for i := range 2 {
		if no, e := b.Twice(i); no != 0 || e != api.ErrFull {
			t.Error("of", i, "in a full one", no, int(e))
		}
	}
	wantHas(t, "full", b, 2, numbered{1, "a"}, numbered{2, "b"})
	for _, most := range []int{0, -5} {
		if no, e := bag.New[string](most).Twice(0); no != 0 || e != api.ErrNone {
			t.Error("of nothing, without room", no, int(e))
		}
	}
	b.Take(0)
	if no, e := b.Twice(0); no != 3 || e != api.OK {
		t.Error("behind the errors", no, int(e))
	}
}

// P6.2: the document's example, then the ends.
func TestTake(t *testing.T) {
	b := filled(t, 9, "7", "8", "9")
	if v, ok := b.Take(1); v != "8" || !ok {
		t.Error("of 1", v, ok)
	}
	wantHas(t, "taken", b, 3, numbered{1, "7"}, numbered{3, "9"})
	for _, i := range noIndex(2) {
		if v, ok := b.Take(i); v != "" || ok {
			t.Error("of", i, v, ok)
		}
	}
	wantHas(t, "not taken", b, 3, numbered{1, "7"}, numbered{3, "9"})
	if v, ok := b.Take(1); v != "9" || !ok {
		t.Error("of the last", v, ok)
	}
	if v, ok := b.Take(0); v != "7" || !ok {
		t.Error("of the first", v, ok)
	}
	if v, ok := b.Take(0); v != "" || ok {
		t.Error("of none", v, ok)
	}
	wantHas(t, "all taken", b, 3)
}

// P6.2: At, No and Set of each index, and of those that are not there.
func TestAtNoAndSet(t *testing.T) {
	b := filled(t, 9, "a", "b", "c")
	b.Take(0)
	for _, i := range noIndex(2) {
		if v, ok := b.At(i); v != "" || ok {
			t.Error("At", i, v, ok)
		}
		if no := b.No(i); no != 0 {
			t.Error("No", i, no)
		}
		if b.Set(i, "x") {
			t.Error("Set", i)
		}
	}
	wantHas(t, "nothing set", b, 3, numbered{2, "b"}, numbered{3, "c"})
	if !b.Set(1, "z") {
		t.Error("Set 1")
	}
	wantHas(t, "one set", b, 3, numbered{2, "b"}, numbered{3, "z"})
	if !b.Set(0, "") {
		t.Error("Set 0")
	}
	wantHas(t, "both set", b, 3, numbered{2, ""}, numbered{3, "z"})
	if v, ok := b.At(0); v != "" || !ok {
		t.Error("an empty text is an item", v, ok)
	}
}

// P6.2: how many have a number of at most another one.
func TestUpto(t *testing.T) {
	b := filled(t, 9, "a", "b", "c", "d", "e")
	b.Take(3)
	b.Take(1)
	b.Take(0) // 3 and 5 remain
	for _, c := range []struct{ no, want int }{
		{math.MinInt, 0}, {-1, 0}, {0, 0}, {1, 0}, {2, 0}, {3, 1}, {4, 1}, {5, 2}, {6, 2}, {math.MaxInt, 2},
	} {
		if got := b.Upto(c.no); got != c.want {
			t.Error("Upto", c.no, "is", got, "want", c.want)
		}
	}
	for _, no := range []int{math.MinInt, 0, 1, math.MaxInt} {
		if got := bag.New[string](3).Upto(no); got != 0 {
			t.Error("of none, Upto", no, "is", got)
		}
	}
}

// P6.2: the last number that was given, whether its item remains or not.
func TestLast(t *testing.T) {
	b := bag.New[string](2)
	if b.Last() != 0 {
		t.Error("of none", b.Last())
	}
	b.Put("a")
	b.Twice(0)
	if b.Last() != 2 {
		t.Error("of two", b.Last())
	}
	b.Put("too many")
	b.Twice(0)
	b.Twice(9)
	b.Set(1, "c")
	b.Take(1)
	b.Keep(func(int, string) bool { return false })
	if b.Last() != 2 {
		t.Error("of none that remain", b.Last())
	}
}

// P6.3: those for which the function returns false go; it sees each item once, in order.
func TestKeep(t *testing.T) {
	cases := []struct {
		name string
		keep func(no int, v string) bool
		gone int
		want []numbered
	}{
		{"all", func(int, string) bool { return true }, 0, []numbered{{1, "a"}, {2, "b"}, {4, "d"}, {5, "e"}}},
		{"none", func(int, string) bool { return false }, 4, nil},
		{"the even ones", func(no int, _ string) bool { return no%2 == 0 }, 2, []numbered{{2, "b"}, {4, "d"}}},
		{"all but the first", func(no int, _ string) bool { return no > 1 }, 1, []numbered{{2, "b"}, {4, "d"}, {5, "e"}}},
		{"all but the last", func(no int, _ string) bool { return no < 5 }, 1, []numbered{{1, "a"}, {2, "b"}, {4, "d"}}},
		{"by the item", func(_ int, v string) bool { return v == "d" }, 3, []numbered{{4, "d"}}},
	}
	for _, c := range cases {
		b := filled(t, 9, "a", "b", "c", "d", "e")
		b.Take(2)
		var seen []numbered
		gone := b.Keep(func(no int, v string) bool {
			seen = append(seen, numbered{no, v})
			return c.keep(no, v)
		})
		if gone != c.gone {
			t.Errorf("%s: removed %d", c.name, gone)
		}
		if !slices.Equal(seen, []numbered{{1, "a"}, {2, "b"}, {4, "d"}, {5, "e"}}) {
			t.Errorf("%s: seen %v", c.name, seen)
		}
		wantHas(t, c.name, b, 5, c.want...)
		if no, e := b.Put("f"); no != 6 || e != api.OK {
			t.Errorf("%s: Put is %d, error %d", c.name, no, int(e))
		}
		wantHas(t, c.name+", and one more", b, 6, append(c.want, numbered{6, "f"})...)
	}
}

// P6.3: of nothing nothing is removed; what is removed makes room.
func TestKeepOfNoneAndOfAFullOne(t *testing.T) {
	none := bag.New[string](3)
	if gone := none.Keep(func(int, string) bool { t.Error("called"); return false }); gone != 0 {
		t.Error("of none", gone)
	}
	b := filled(t, 2, "a", "b")
	if gone := b.Keep(func(no int, _ string) bool { return no == 2 }); gone != 1 {
		t.Error("of two", gone)
	}
	if no, e := b.Put("c"); no != 3 || e != api.OK {
		t.Error("Put", no, int(e))
	}
	wantHas(t, "full again", b, 3, numbered{2, "b"}, numbered{3, "c"})
}

// P6.3: items that the function itself puts were not there before, and remain; what it takes is gone.
func TestKeepWhoseFunctionChangesTheBag(t *testing.T) {
	b := filled(t, 9, "a", "b", "c")
	var seen []numbered
	gone := b.Keep(func(no int, v string) bool {
		seen = append(seen, numbered{no, v})
		switch no {
		case 1:
			b.Put("d")
			b.Set(2, "x")
		case 2:
			b.Take(0)
		}
		return no != 3
	})
	if gone != 1 || !slices.Equal(seen, []numbered{{1, "a"}, {2, "b"}, {3, "c"}}) {
		t.Error("removed", gone, "seen", seen)
	}
	wantHas(t, "changed meanwhile", b, 4, numbered{2, "b"}, numbered{4, "d"})
}

// P6.3, P1: for whom the function panics, it does not return false.
func TestKeepWhoseFunctionPanics(t *testing.T) {
	b := filled(t, 9, "a", "b", "c", "d")
	gone := b.Keep(func(no int, _ string) bool {
		if no == 2 {
			panic("x")
		}
		return no == 3
	})
	if gone != 2 {
		t.Error("removed", gone)
	}
	wantHas(t, "panicked", b, 4, numbered{2, "b"}, numbered{3, "c"})
	if gone := b.Keep(nil); gone != 0 || b.Len() != 2 {
		t.Error("of no function", gone, b.Len())
	}
}

// P6.3: an iteration sees all items in order, again each time, and ends when it is told to.
func TestAll(t *testing.T) {
	b := filled(t, 9, "a", "b", "c")
	b.Take(1)
	want := []numbered{{1, "a"}, {3, "c"}}
	for range 2 {
		if got := has(b); !slices.Equal(got, want) {
			t.Error("all", got)
		}
	}
	for stop := range 2 {
		var seen []numbered
		for no, v := range b.All() {
			seen = append(seen, numbered{no, v})
			if len(seen) > stop {
				break
			}
		}
		if !slices.Equal(seen, want[:stop+1]) {
			t.Error("ended early", seen)
		}
	}
	for range bag.New[string](3).All() {
		t.Error("a new bag has something")
	}
}

// P6.3: the items are those at the beginning of an iteration: not those when All was called, nor those that it meets meanwhile.
func TestAllIsAsWhenItBegins(t *testing.T) {
	b := filled(t, 9, "a", "b", "c")
	all := b.All()
	b.Take(0)
	b.Put("d")
	b.Set(0, "x")
	var seen []numbered
	for no, v := range all {
		if len(seen) == 0 {
			b.Set(1, "y")
			b.Take(0)
			b.Put("e")
		}
		seen = append(seen, numbered{no, v})
	}
	if !slices.Equal(seen, []numbered{{2, "x"}, {3, "c"}, {4, "d"}}) {
		t.Error("seen", seen)
	}
	seen = nil
	for no, v := range all {
		seen = append(seen, numbered{no, v})
	}
	if !slices.Equal(seen, []numbered{{3, "y"}, {4, "d"}, {5, "e"}}) {
		t.Error("seen by the next iteration", seen)
	}
	var inner []int
	for no := range all {
		for other := range all {
			inner = append(inner, 10*no+other)
		}
		b.Take(0)
	}
	if !slices.Equal(inner, []int{33, 34, 35, 44, 45, 55}) {
		t.Error("one within another", inner)
	}
}

// Rule 5: items are kept as they are.
func TestItemsAreKeptAsTheyAre(t *testing.T) {
	b := bag.New[[]int](3)
	v, w := []int{1, 2}, []int{3}
	b.Put(v)
	b.Twice(0)
	b.Set(1, w)
	v[0] = 9
	first, _ := b.At(0)
	second, _ := b.Take(1)
	if &first[0] != &v[0] || !slices.Equal(first, []int{9, 2}) || &second[0] != &w[0] {
		t.Error("items", first, second)
	}
	none := bag.New[[]int](3)
	if no, e := none.Put(nil); no != 1 || e != api.OK {
		t.Error("nil is an item", no, int(e))
	}
	if v, ok := none.At(0); v != nil || !ok {
		t.Error("nil is an item", v, ok)
	}
}

// model is a bag as the chapter tells it, by a way of its own: what is at each number.
type model struct {
	at   map[int]string
	last int
	most int
}

// numbers are those of the items, in order.
func (m *model) numbers() []int {
	var l []int
	for no := 1; no <= m.last; no++ {
		if _, ok := m.at[no]; ok {
			l = append(l, no)
		}
	}
	return l
}

func (m *model) put(v string) (int, api.Errno) {
	if len(m.at) >= m.most {
		return 0, api.ErrFull
	}
	m.last++
	m.at[m.last] = v
	return m.last, api.OK
}

// step does one thing to both, and reports whether both answered the same.
func (m *model) step(r *rand.Rand, b *bag.Bag[string]) bool {
	l := m.numbers()
	i := r.Intn(len(l)+3) - 1
	there := i >= 0 && i < len(l)
	v := string(rune('a' + r.Intn(26)))
	var no, wantNo int
	var e, wantE api.Errno
	switch r.Intn(6) {
	case 0, 1:
		no, e = b.Put(v)
		wantNo, wantE = m.put(v)
	case 2:
		no, e = b.Twice(i)
		if wantE = api.ErrNone; there {
			wantNo, wantE = m.put(m.at[l[i]])
		}
	case 3:
		got, ok := b.Take(i)
		if there {
			ok = ok && got == m.at[l[i]]
			delete(m.at, l[i])
		}
		return ok == there
	case 4:
		if there {
			m.at[l[i]] = v
		}
		return b.Set(i, v) == there
	case 5:
		if r.Intn(4) > 0 {
			return true
		}
		k, was := 2+r.Intn(3), len(m.at)
		for _, x := range l {
			if x%k == 0 {
				delete(m.at, x)
			}
		}
		return b.Keep(func(no int, _ string) bool { return no%k != 0 }) == was-len(m.at)
	}
	return no == wantNo && e == wantE
}

// P6.1 to P6.4: whatever is done, a bag has what the chapter says, and its numbers increase with the indices.
func TestBagsDoAsTheModel(t *testing.T) {
	r := rand.New(rand.NewSource(3))
	for range 60 {
		most := r.Intn(12) - 1
		b, m := bag.New[string](most), &model{at: map[int]string{}, most: most}
		for range 200 {
			if !m.step(r, b) {
				t.Fatal("an answer is another one; now", has(b))
			}
			l := m.numbers()
			var want []numbered
			for _, no := range l {
				want = append(want, numbered{no, m.at[no]})
			}
			wantHas(t, "model", b, m.last, want...)
			for i := 1; i < b.Len(); i++ {
				if b.No(i-1) >= b.No(i) {
					t.Fatal("numbers", b.No(i-1), b.No(i), "at", i)
				}
			}
			no := r.Intn(m.last+3) - 1
			upto := 0
			for _, x := range l {
				if x <= no {
					upto++
				}
			}
			if b.Upto(no) != upto {
				t.Fatal("Upto", no, "is", b.Upto(no), "want", upto)
			}
		}
	}
}

// P1: on a nil bag there is the zero value, false, 0, ErrNil or nothing.
func TestNil(t *testing.T) {
	var b *bag.Bag[string]
	if no, e := b.Put("a"); no != 0 || e != api.ErrNil {
		t.Error("Put", no, int(e))
	}
	for _, i := range []int{0, -1, 5} {
		if no, e := b.Twice(i); no != 0 || e != api.ErrNil {
			t.Error("Twice", no, int(e))
		}
		if v, ok := b.Take(i); v != "" || ok {
			t.Error("Take", v, ok)
		}
		if v, ok := b.At(i); v != "" || ok {
			t.Error("At", v, ok)
		}
		if b.Set(i, "a") || b.No(i) != 0 || b.Upto(i) != 0 {
			t.Error("Set, No, Upto of", i)
		}
	}
	if b.Len() != 0 || b.Last() != 0 || b.Upto(math.MaxInt) != 0 {
		t.Error("Len", b.Len(), "Last", b.Last())
	}
	if gone := b.Keep(func(int, string) bool { t.Error("called"); return false }); gone != 0 {
		t.Error("Keep", gone)
	}
	for range b.All() {
		t.Error("All yields something")
	}
}
