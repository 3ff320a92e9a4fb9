package bits_test

import (
	"bytes"
	"math"
	"math/rand"
	"slices"
	"testing"

	"catenary/api"
	"catenary/bits"
)

const most = 4096

// sizes are numbers of bits around whole bytes, and the greatest ones.
var sizes = []int{0, 1, 2, 5, 7, 8, 9, 15, 16, 17, 63, 64, 65, 160, most - 9, most - 8, most - 7, most - 1, most}

// noSizes are numbers of bits that no bitmap has; some of them are one's, if cut to fewer bits.
var noSizes = []int{-1, -7, -8, -64, -most, most + 1, most + 8, 1 << 16, 1<<16 + 5, 1<<32 + 5, math.MinInt, math.MinInt + 5, math.MaxInt - 7, math.MaxInt}

// noPlaces are numbers of bits that a bitmap of n doesn't have.
func noPlaces(n int) []int {
	return []int{-1, -8, -9, n, n + 1, n + 8, 1<<32 + n, math.MinInt, math.MaxInt}
}

// mapOf returns the bytes of a bitmap of n in which these are used, computed as the chapter defines them.
func mapOf(n int, used ...int) []byte {
	b := make([]byte, n/8)
	if n%8 != 0 {
		b = append(b, 0)
	}
	for _, i := range used {
		bit := byte(1)
		for range i % 8 {
			bit *= 2
		}
		b[i/8] |= bit
	}
	return b
}

// some returns some of the bits from 0 to below n, in increasing order.
func some(random *rand.Rand, n int) []int {
	var l []int
	share := 1 + random.Intn(9)
	for i := range n {
		if random.Intn(10) < share {
			l = append(l, i)
		}
	}
	return l
}

// others returns the bits from 0 to below n that are not in l, in increasing order.
func others(n int, l []int) []int {
	in := map[int]bool{}
	for _, i := range l {
		in[i] = true
	}
	var rest []int
	for i := range n {
		if !in[i] {
			rest = append(rest, i)
		}
	}
	return rest
}

// holds holds b to be a bitmap of n in which these are used; one that is all free may be empty.
func holds(t *testing.T, what string, b []byte, n int, used ...int) {
	t.Helper()
	if !bytes.Equal(b, mapOf(n, used...)) && (len(b) != 0 || len(used) != 0) {
		t.Errorf("%s: a bitmap of %d is % x; want % x", what, n, b, mapOf(n, used...))
	}
}

// wrongMaps are bytes that are no bitmap of n.
func wrongMaps(n int) [][]byte {
	b := mapOf(n)
	l := [][]byte{append(slices.Clone(b), 0), append(slices.Clone(b), 1), append(slices.Clone(b), 0, 0), make([]byte, len(b)+512)}
	if len(b) > 1 {
		l = append(l, b[:len(b)-1], b[1:], b[:1])
	}
	for i := n; i < 8*len(b); i++ {
		l = append(l, mapOf(8*len(b), i))
	}
	return l
}

// P27.1: as many bytes as are needed, all of them 0.
func TestNew(t *testing.T) {
	for n := 0; n <= most; n++ {
		if b, e := bits.New(n); e != api.OK || !bytes.Equal(b, mapOf(n)) {
			t.Fatalf("%d is % x, %d", n, b, int(e))
		}
	}
	for n, length := range map[int]int{0: 0, 1: 1, 8: 1, 9: 2, 16: 2, 17: 3, 4095: 512, 4096: 512} {
		if b, e := bits.New(n); e != api.OK || len(b) != length {
			t.Error(n, "has", len(b), "bytes", int(e))
		}
	}
	for _, n := range noSizes {
		if b, e := bits.New(n); len(b) != 0 || e != api.ErrArg {
			t.Error(n, "is", b, int(e))
		}
	}
	one, _ := bits.New(9)
	one[0] = 255
	two, _ := bits.New(9)
	holds(t, "another one", two, 9)
}

// P27.1: which bytes are a bitmap of n: no bytes, or as many as are needed, without bits from n on.
func TestFits(t *testing.T) {
	random := rand.New(rand.NewSource(271))
	for _, n := range sizes {
		for _, b := range [][]byte{nil, {}, mapOf(n), mapOf(n, some(random, n)...), mapOf(n, others(n, nil)...)} {
			if !bits.Fits(b, n) {
				t.Errorf("% x is no bitmap of %d", b, n)
			}
		}
		for _, b := range wrongMaps(n) {
			if bits.Fits(b, n) {
				t.Errorf("% x is a bitmap of %d", b, n)
			}
		}
	}
	for n := range 40 {
		for i := range 48 {
			for length := range 7 {
				if i >= 8*length {
					continue
				}
				want := length == len(mapOf(n)) && i < n
				if got := bits.Fits(mapOf(8*length, i), n); got != want {
					t.Error("the bit", i, "of", length, "bytes, of", n, "is", got)
				}
			}
		}
	}
}

// P27.1: nothing is a bitmap of a number that is not from 0 to 4096.
func TestFitsNoSize(t *testing.T) {
	for _, n := range noSizes {
		for _, b := range [][]byte{nil, {}, {0}, {1}, make([]byte, 8), make([]byte, 512), make([]byte, 513), make([]byte, 1<<13)} {
			if bits.Fits(b, n) {
				t.Error(len(b), "bytes are a bitmap of", n)
			}
		}
	}
}

// P27.1: the bit i is in the byte i / 8, the lowest one first; bits that there are not are not 1.
func TestHas(t *testing.T) {
	b := []byte{0x05, 0x80, 0x00, 0x12}
	for i := range 40 {
		if got := bits.Has(b, i); got != slices.Contains([]int{0, 2, 15, 25, 28}, i) {
			t.Error(i, "is", got)
		}
	}
	full := bytes.Repeat([]byte{255}, 600) // also more than a bitmap has
	for i := range 4800 {
		if !bits.Has(full, i) || bits.Has(make([]byte, 600), i) {
			t.Error(i)
		}
	}
	for _, i := range noPlaces(4800) {
		if bits.Has(full, i) {
			t.Error("has", i)
		}
	}
	for _, i := range []int{0, 1, 7, 8, -1, math.MinInt, math.MaxInt} {
		if bits.Has(nil, i) || bits.Has([]byte{}, i) {
			t.Error("nothing has", i)
		}
	}
	for i := -20; i < 0; i++ {
		if bits.Has(full, i) {
			t.Error("has", i)
		}
	}
}

// P27.1: one bit becomes used, or free; all others stay.
func TestSet(t *testing.T) {
	random := rand.New(rand.NewSource(272))
	for _, n := range []int{1, 5, 8, 9, 16, 23, 64, most} {
		for range 30 {
			used := some(random, n)
			i := random.Intn(n)
			without := slices.DeleteFunc(slices.Clone(used), func(k int) bool { return k == i })
			b := mapOf(n, used...)
			on, e := bits.Set(b, n, i, true)
			off, e2 := bits.Set(b, n, i, false)
			if e != api.OK || e2 != api.OK {
				t.Fatal(n, i, int(e), int(e2))
			}
			holds(t, "on", on, n, append(without, i)...)
			holds(t, "off", off, n, without...)
			holds(t, "the argument", b, n, used...)
		}
	}
	for _, b := range [][]byte{nil, {}} { // no bytes are all free
		for _, n := range []int{1, 8, 9, 16, 17, most} {
			for _, i := range []int{0, n / 2, n - 1} {
				on, e := bits.Set(b, n, i, true)
				off, e2 := bits.Set(b, n, i, false)
				if e != api.OK || e2 != api.OK {
					t.Fatal(n, i, int(e), int(e2))
				}
				holds(t, "on", on, n, i)
				holds(t, "off", off, n)
			}
		}
	}
}

// P27.1: ErrForm of what is no bitmap of n, also where i is wrong, too; then ErrRange.
func TestSetErrors(t *testing.T) {
	check := func(b []byte, n, i int, want api.Errno) {
		t.Helper()
		for _, on := range []bool{true, false} {
			if got, e := bits.Set(b, n, i, on); len(got) != 0 || e != want {
				t.Error(b, n, i, on, "is", got, int(e), "want", int(want))
			}
		}
	}
	for _, n := range []int{0, 1, 5, 8, 9, 16, most - 1, most} {
		for _, i := range noPlaces(n) {
			check(mapOf(n), n, i, api.ErrRange)
			check(mapOf(n, others(n, nil)...), n, i, api.ErrRange)
			check(nil, n, i, api.ErrRange)
		}
		for _, b := range wrongMaps(n) {
			for _, i := range append(noPlaces(n), 0, n-1) {
				check(b, n, i, api.ErrForm)
			}
		}
	}
	for _, n := range noSizes {
		for _, i := range append(noPlaces(n), 0, 1) {
			check(nil, n, i, api.ErrForm)
			check([]byte{0}, n, i, api.ErrForm)
			check(make([]byte, 512), n, i, api.ErrForm)
		}
	}
}

// P27.1: how many bits are used, and which ones, in increasing order.
func TestCountAndList(t *testing.T) {
	random := rand.New(rand.NewSource(273))
	for _, n := range sizes {
		for _, used := range [][]int{nil, some(random, n), some(random, n), others(n, nil)} {
			b := mapOf(n, used...)
			if got := bits.List(b, n); !slices.Equal(got, used) {
				t.Error("of", n, "there are", got, "want", used)
			}
			if got := bits.Count(b, n); got != len(used) {
				t.Error("of", n, "there are", got, "want", len(used))
			}
			holds(t, "the argument", b, n, used...)
		}
		if bits.Count(nil, n) != 0 || len(bits.List(nil, n)) != 0 {
			t.Error("no bytes have", bits.Count(nil, n), bits.List(nil, n))
		}
		for i := range min(n, 20) {
			if l := bits.List(mapOf(n, i), n); !slices.Equal(l, []int{i}) || bits.Count(mapOf(n, i), n) != 1 {
				t.Error(i, "is", l)
			}
		}
	}
}

// P27.1: nothing is used in what is no bitmap of n.
func TestCountAndListOfOthers(t *testing.T) {
	check := func(b []byte, n int) {
		t.Helper()
		if c, l := bits.Count(b, n), bits.List(b, n); c != 0 || len(l) != 0 {
			t.Error(n, "has", c, l)
		}
	}
	for _, n := range sizes {
		for _, b := range wrongMaps(n) {
			check(b, n)
		}
		check(bytes.Repeat([]byte{255}, len(mapOf(n))+1), n)
		if n%8 != 0 {
			check(bytes.Repeat([]byte{255}, len(mapOf(n))), n)
		}
	}
	for _, n := range noSizes {
		check([]byte{1}, n)
		check(bytes.Repeat([]byte{255}, 512), n)
		check(bytes.Repeat([]byte{255}, 513), n)
	}
}

// P27.2: the chapter's example.
func TestTakeExample(t *testing.T) {
	b := []byte{0x05}
	got, l, e := bits.Take(b, 5, 2)
	if e != api.OK || !slices.Equal(l, []int{1, 3}) || !bytes.Equal(got, []byte{0x0f}) || b[0] != 5 {
		t.Error(got, l, int(e), b)
	}
}

// P27.2: the least free bits are taken, as many as are asked for.
func TestTake(t *testing.T) {
	random := rand.New(rand.NewSource(274))
	for _, n := range sizes {
		for _, used := range [][]int{nil, some(random, n), some(random, n), others(n, nil)} {
			free := others(n, used)
			for _, k := range []int{0, 1, 2, len(free) / 2, len(free) - 1, len(free)} {
				if k < 0 || k > len(free) {
					continue
				}
				b := mapOf(n, used...)
				got, l, e := bits.Take(b, n, k)
				if e != api.OK || !slices.Equal(l, free[:k]) {
					t.Fatal("of", n, "taken are", l, int(e), "want", free[:k])
				}
				holds(t, "taken", got, n, slices.Concat(used, free[:k])...)
				holds(t, "the argument", b, n, used...)
			}
		}
	}
	for _, b := range [][]byte{nil, {}} { // no bytes are all free
		for _, n := range sizes {
			for _, k := range []int{0, min(n, 1), n / 2, n} {
				got, l, e := bits.Take(b, n, k)
				if e != api.OK || !slices.Equal(l, others(k, nil)) {
					t.Fatal("of", n, "taken are", l, int(e))
				}
				holds(t, "taken", got, n, others(k, nil)...)
			}
		}
	}
}

func mustNotTake(t *testing.T, b []byte, n, k int, want api.Errno) {
	t.Helper()
	if got, l, e := bits.Take(b, n, k); len(got) != 0 || len(l) != 0 || e != want {
		t.Error("of", n, "there are taken", k, got, l, int(e), "want", int(want))
	}
}

// P27.2: ErrForm of what is no bitmap, then ErrArg of fewer than none, then ErrSpace.
func TestTakeErrors(t *testing.T) {
	random := rand.New(rand.NewSource(275))
	below := []int{-1, -2, -most, math.MinInt, math.MinInt + 1}
	for _, n := range sizes {
		used := some(random, n)
		left := n - len(used)
		for _, more := range []int{left + 1, left + 2, most + 1, 1 << 32, 1<<32 + 1, math.MaxInt - 1, math.MaxInt} {
			mustNotTake(t, mapOf(n, used...), n, more, api.ErrSpace)
		}
		mustNotTake(t, nil, n, n+1, api.ErrSpace)
		mustNotTake(t, mapOf(n, others(n, nil)...), n, 1, api.ErrSpace)
		for _, k := range below {
			mustNotTake(t, mapOf(n, used...), n, k, api.ErrArg)
			mustNotTake(t, nil, n, k, api.ErrArg)
		}
		for _, b := range wrongMaps(n) {
			for _, k := range append(below, 0, 1, math.MaxInt) {
				mustNotTake(t, b, n, k, api.ErrForm)
			}
		}
	}
	for _, n := range noSizes {
		for _, k := range append(below, 0, 1, math.MaxInt) {
			mustNotTake(t, nil, n, k, api.ErrForm)
			mustNotTake(t, make([]byte, 512), n, k, api.ErrForm)
		}
	}
}

// P27.2: what is given back is free, in whichever order.
func TestGive(t *testing.T) {
	random := rand.New(rand.NewSource(276))
	for _, n := range sizes {
		for _, used := range [][]int{nil, some(random, n), some(random, n), others(n, nil)} {
			mixed := slices.Clone(used)
			random.Shuffle(len(mixed), func(i, k int) { mixed[i], mixed[k] = mixed[k], mixed[i] })
			for _, k := range []int{0, min(1, len(used)), len(used) / 2, len(used)} {
				b, l := mapOf(n, used...), slices.Clone(mixed[:k])
				got, e := bits.Give(b, n, l)
				if e != api.OK {
					t.Fatal("of", n, "given", l, int(e))
				}
				holds(t, "given", got, n, mixed[k:]...)
				holds(t, "the argument", b, n, used...)
				if !slices.Equal(l, mixed[:k]) {
					t.Error("the list was changed", l)
				}
			}
		}
		got, e := bits.Give(nil, n, nil)
		if e != api.OK {
			t.Error("nothing given to no bytes is", int(e))
		}
		holds(t, "nothing given to no bytes", got, n)
	}
}

func mustNotGive(t *testing.T, b []byte, n int, want api.Errno, l ...int) {
	t.Helper()
	if got, e := bits.Give(b, n, l); len(got) != 0 || e != want {
		t.Error("of", n, "given", l, "is", got, int(e), "want", int(want))
	}
}

// P27.2: ErrForm of what is no bitmap; then the error of the first element that is wrong: ErrRange, or ErrNone if it is free at that time.
func TestGiveErrors(t *testing.T) {
	b := mapOf(11, 0, 2, 7, 8, 10)
	for _, i := range noPlaces(11) {
		mustNotGive(t, b, 11, api.ErrRange, i)
		mustNotGive(t, b, 11, api.ErrRange, 2, i)
		mustNotGive(t, b, 11, api.ErrRange, 2, i, 1)
		mustNotGive(t, b, 11, api.ErrNone, 1, i)
		mustNotGive(t, b, 11, api.ErrNone, 2, 2, i)
		mustNotGive(t, nil, 11, api.ErrRange, i)
		mustNotGive(t, nil, 0, api.ErrRange, i)
	}
	for _, i := range []int{1, 3, 6, 9} {
		mustNotGive(t, b, 11, api.ErrNone, i)
		mustNotGive(t, b, 11, api.ErrNone, 0, 10, i)
		mustNotGive(t, b, 11, api.ErrNone, i, 0)
	}
	mustNotGive(t, b, 11, api.ErrNone, 7, 7)
	mustNotGive(t, b, 11, api.ErrNone, 8, 2, 0, 8)
	for _, i := range []int{0, 5, 10} {
		mustNotGive(t, nil, 11, api.ErrNone, i)
		mustNotGive(t, mapOf(11), 11, api.ErrNone, i)
	}
	mustNotGive(t, mapOf(most), most, api.ErrRange, most)
	mustNotGive(t, mapOf(most), most, api.ErrNone, most-1)
	holds(t, "the argument", b, 11, 0, 2, 7, 8, 10)
	for _, n := range sizes {
		for _, b := range wrongMaps(n) {
			mustNotGive(t, b, n, api.ErrForm)
			mustNotGive(t, b, n, api.ErrForm, 0)
			mustNotGive(t, b, n, api.ErrForm, -1)
		}
	}
	for _, n := range noSizes {
		mustNotGive(t, nil, n, api.ErrForm)
		mustNotGive(t, nil, n, api.ErrForm, 0)
		mustNotGive(t, make([]byte, 512), n, api.ErrForm, -1)
	}
}

// P27.1, P27.2: results are new memory, also where nothing changes.
func TestNewMemory(t *testing.T) {
	b := mapOf(12, 3, 9)
	set, _ := bits.Set(b, 12, 3, true)
	unset, _ := bits.Set(b, 12, 4, false)
	taken, none, _ := bits.Take(b, 12, 0)
	given, _ := bits.Give(b, 12, nil)
	for _, l := range [][]byte{set, unset, taken, given} {
		holds(t, "nothing changes", l, 12, 3, 9)
		clear(l)
		_ = append(l[:1], 255)
		holds(t, "the argument", b, 12, 3, 9)
	}
	_ = append(none, 5)
	used, again := bits.List(b, 12), bits.List(b, 12)
	used[0] = 7
	if !slices.Equal(again, []int{3, 9}) || !slices.Equal(bits.List(b, 12), []int{3, 9}) {
		t.Error("a list was kept")
	}
}

// P27.3: bits that are taken and given back, in any order, leave the bitmap as it was; meanwhile exactly these are used, too.
func TestTheorem(t *testing.T) {
	random := rand.New(rand.NewSource(277))
	for range 2000 {
		n := random.Intn(200)
		if random.Intn(20) == 0 {
			n = most - random.Intn(20)
		}
		used := some(random, n)
		b := mapOf(n, used...)
		k := random.Intn(n - len(used) + 1)
		taken, l, e := bits.Take(b, n, k)
		if e != api.OK || len(l) != k || bits.Count(taken, n) != len(used)+k || !bits.Fits(taken, n) {
			t.Fatal(n, used, k, "taken are", l, int(e))
		}
		for _, i := range l {
			if bits.Has(b, i) || !bits.Has(taken, i) {
				t.Fatal(i, "of", l)
			}
		}
		random.Shuffle(k, func(i, j int) { l[i], l[j] = l[j], l[i] })
		if given, e := bits.Give(taken, n, l); e != api.OK || !bytes.Equal(given, b) {
			t.Fatalf("% x taken %v and given is % x, %d", b, l, given, int(e))
		}
	}
}

// P27.1, P27.2: a series of changes, held against a set.
func TestSeries(t *testing.T) {
	random := rand.New(rand.NewSource(278))
	for range 60 {
		n := 1 + random.Intn(90)
		used := map[int]bool{}
		var b []byte
		for range 80 {
			var e api.Errno
			switch i := random.Intn(n); random.Intn(3) {
			case 0:
				on := random.Intn(2) == 0
				if b, e = bits.Set(b, n, i, on); on {
					used[i] = true
				} else {
					delete(used, i)
				}
			case 1:
				var l []int
				if k := random.Intn(4); k <= n-len(used) {
					b, l, e = bits.Take(b, n, k)
				}
				for _, i := range l {
					if used[i] {
						t.Fatal("taken twice:", i)
					}
					used[i] = true
				}
			case 2:
				if used[i] {
					b, e = bits.Give(b, n, []int{i})
					delete(used, i)
				}
			}
			if e != api.OK || bits.Count(b, n) != len(used) {
				t.Fatal(n, used, bits.List(b, n), int(e))
			}
			for i := range n {
				if bits.Has(b, i) != used[i] {
					t.Fatal(i, used)
				}
			}
		}
	}
}
