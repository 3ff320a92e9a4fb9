package tally_test

import (
	"math"
	"math/rand"
	"slices"
	"sync"
	"testing"

	"catenary/api"
	"catenary/tally"
)

// many is how many goroutines do something at the same time.
const many = 16

// together does it in many goroutines, and waits for all of them.
func together(do func(g int)) {
	var begin, all sync.WaitGroup
	begin.Add(1)
	for g := range many {
		all.Add(1)
		go func() {
			defer all.Done()
			begin.Wait()
			do(g)
		}()
	}
	begin.Done()
	all.Wait()
}

func marks(t *testing.T, n int, marked ...int) *tally.Marks {
	t.Helper()
	m, e := tally.NewMarks(n)
	if e != api.OK || m == nil {
		t.Fatal("NewMarks", n, int(e))
	}
	for _, i := range marked {
		m.Claim(i)
	}
	return m
}

// P4.1: a clock begins with its first number, and each Next is one more.
func TestClock(t *testing.T) {
	for _, first := range []uint64{0, 1, 41, math.MaxUint64 - 2} {
		c := tally.NewClock(first)
		if c.Now() != first || c.Now() != first {
			t.Error("begins with", c.Now(), "want", first)
		}
		for more := range uint64(2) {
			n := first + more + 1
			if got := c.Next(); got != n || c.Now() != n {
				t.Error("Next", got, c.Now(), "want", n)
			}
		}
	}
}

// P4.1: numbers are modulo 2 to the power of 64.
func TestClockWraps(t *testing.T) {
	c := tally.NewClock(math.MaxUint64 - 1)
	if a, b, z := c.Next(), c.Next(), c.Next(); a != math.MaxUint64 || b != 0 || z != 1 {
		t.Error("Next", a, b, z)
	}
	if got := c.Reach(math.MaxUint64); got != math.MaxUint64 || c.Now() != math.MaxUint64 {
		t.Error("Reach of the greatest", got, c.Now())
	}
}

// P4.1: Reach only increases the number.
func TestReach(t *testing.T) {
	c := tally.NewClock(5)
	steps := []struct{ n, want uint64 }{
		{0, 5}, {4, 5}, {5, 5}, {6, 6}, {5, 6}, {6, 6}, {100, 100}, {0, 100},
		{1 << 63, 1 << 63}, {1<<63 - 1, 1 << 63}, {math.MaxUint64, math.MaxUint64}, {3, math.MaxUint64},
	}
	for _, s := range steps {
		if got := c.Reach(s.n); got != s.want || c.Now() != s.want {
			t.Error("Reach", s.n, "got", got, c.Now(), "want", s.want)
		}
	}
	if got := c.Next(); got != 0 {
		t.Error("Next behind the greatest", got)
	}
}

// P4.1: each number is given by one Next, however many ask.
func TestNextOfMany(t *testing.T) {
	const each = 500
	c := tally.NewClock(1000)
	var got [many][each]uint64
	together(func(g int) {
		for k := range each {
			got[g][k] = c.Next()
		}
	})
	given := map[uint64]int{}
	for g := range got {
		if !slices.IsSorted(got[g][:]) {
			t.Error("a goroutine saw the number fall")
		}
		for _, n := range got[g] {
			given[n]++
		}
	}
	for n := uint64(1001); n <= 1000+many*each; n++ {
		if given[n] != 1 {
			t.Fatal("number", n, "was given", given[n], "times")
		}
	}
	if c.Now() != 1000+many*each {
		t.Error("Now", c.Now())
	}
}

// P4.1: the greatest number that was to be reached is reached, however many ask, and no Reach sets it back.
func TestReachOfMany(t *testing.T) {
	const each = 20000
	c := tally.NewClock(0)
	var fell [many]bool
	together(func(g int) {
		for k := range each {
			got := c.Reach(uint64(k*many + g))
			fell[g] = fell[g] || got < uint64(k*many+g) || c.Now() < got
		}
	})
	if slices.Contains(fell[:], true) {
		t.Error("the number fell, or was not reached")
	}
	if c.Now() != many*each-1 {
		t.Error("Now", c.Now())
	}
}

// P4.1: no Next is lost between those that reach.
func TestNextAndReachOfMany(t *testing.T) {
	const each = 500
	c := tally.NewClock(0)
	var got [many][]uint64
	together(func(g int) {
		for k := range each {
			if g%2 == 0 {
				got[g] = append(got[g], c.Next())
			} else {
				c.Reach(uint64(2*k + g))
			}
		}
	})
	given := map[uint64]int{}
	for g := range got {
		for _, n := range got[g] {
			given[n]++
		}
	}
	if len(given) != each*many/2 {
		t.Error("different numbers", len(given), "want", each*many/2)
	}
}

// P4.2: sixteen counters, each its own.
func TestBoard(t *testing.T) {
	b := tally.NewBoard()
	for i := range 16 {
		if b.At(i) != 0 {
			t.Error("a new one has", b.At(i), "at", i)
		}
	}
	for i := range 16 {
		if !b.Add(i, int64(i+1)) {
			t.Error("Add", i)
		}
	}
	for i := range 16 {
		if b.At(i) != int64(i+1) {
			t.Error("At", i, b.At(i))
		}
	}
	if b.Total() != 136 {
		t.Error("Total", b.Total())
	}
	if !b.Add(3, -10) || b.At(3) != -6 || b.Total() != 126 {
		t.Error("less", b.At(3), b.Total())
	}
	if !b.Add(3, 0) || b.At(3) != -6 {
		t.Error("nothing more", b.At(3))
	}
	if tally.NewBoard().Total() != 0 {
		t.Error("another board has something")
	}
}

// P4.2: there are no other counters.
func TestNoSuchCounter(t *testing.T) {
	b := tally.NewBoard()
	for _, i := range []int{-1, 16, 17, 64, math.MinInt, math.MaxInt} {
		if b.Add(i, 5) || b.Add(i, 0) {
			t.Error("Add", i)
		}
		if b.At(i) != 0 {
			t.Error("At", i, b.At(i))
		}
	}
	if b.Total() != 0 {
		t.Error("Total", b.Total())
	}
}

// P4.2: counters, and their sum, are between the least and the greatest int64.
func TestBoardWraps(t *testing.T) {
	b := tally.NewBoard()
	b.Add(0, math.MaxInt64)
	if b.Add(0, 1); b.At(0) != math.MinInt64 {
		t.Error("behind the greatest", b.At(0))
	}
	if b.Add(0, -1); b.At(0) != math.MaxInt64 {
		t.Error("ahead of the least", b.At(0))
	}
	if b.Add(15, 2); b.Total() != math.MinInt64+1 {
		t.Error("Total", b.Total())
	}
	if b.Add(7, math.MinInt64); b.At(7) != math.MinInt64 || b.Total() != 1 {
		t.Error("Total", b.At(7), b.Total())
	}
}

// P4.2: nothing that is added is lost, however many add.
func TestBoardOfMany(t *testing.T) {
	const each = 16000
	b := tally.NewBoard()
	together(func(g int) {
		for k := range each {
			b.Add(0, 2)
			b.Add(k%16, int64(g))
			b.Add(16, 1)
		}
		b.Total()
	})
	const turns, sum = each / 16, many * (many - 1) / 2
	if b.At(0) != 2*many*each+turns*sum {
		t.Error("At 0", b.At(0))
	}
	for i := 1; i < 16; i++ {
		if b.At(i) != turns*sum {
			t.Error("At", i, b.At(i), "want", turns*sum)
		}
	}
	if b.Total() != 2*many*each+each*sum {
		t.Error("Total", b.Total())
	}
}

// P4.3: how many marks there may be.
func TestNewMarks(t *testing.T) {
	for _, n := range []int{-1, 65537, math.MinInt, math.MaxInt} {
		if m, e := tally.NewMarks(n); m != nil || e != api.ErrArg {
			t.Error("NewMarks", n, m, int(e))
		}
	}
	for _, n := range []int{0, 1, 63, 64, 65, 100, 65535, 65536} {
		m := marks(t, n)
		if m.Len() != n || m.Count() != 0 || len(m.All()) != 0 {
			t.Error("new marks", n, m.Len(), m.Count(), m.All())
		}
		for _, i := range []int{0, n / 2, n - 1} {
			if m.Has(i) {
				t.Error("a new one has", i, "of", n)
			}
		}
	}
}

// P4.3: a number that is not marked can be claimed once, and again when it is free.
func TestClaimAndFree(t *testing.T) {
	m := marks(t, 130)
	for _, i := range []int{0, 1, 62, 63, 64, 65, 127, 128, 129} {
		if m.Free(i) {
			t.Error("Free of what is not marked", i)
		}
		if !m.Claim(i) || !m.Has(i) {
			t.Error("Claim", i)
		}
		if m.Claim(i) || !m.Has(i) {
			t.Error("a second Claim", i)
		}
	}
	if want := []int{0, 1, 62, 63, 64, 65, 127, 128, 129}; !slices.Equal(m.All(), want) || m.Count() != 9 || m.Len() != 130 {
		t.Error("claimed", m.All(), m.Count(), m.Len())
	}
	if !m.Free(63) || m.Has(63) || m.Free(63) || !m.Has(62) || !m.Has(64) {
		t.Error("Free of 63", m.All())
	}
	if m.Count() != 8 || !slices.Equal(m.All(), []int{0, 1, 62, 64, 65, 127, 128, 129}) {
		t.Error("freed", m.All(), m.Count())
	}
	if !m.Claim(63) || !m.Has(63) || m.Count() != 9 {
		t.Error("claimed again", m.All())
	}
}

// P4.3: numbers that are not there can't be claimed, not even behind the last one in its word.
func TestNoSuchMark(t *testing.T) {
	for _, n := range []int{0, 1, 3, 63, 64, 65, 65536} {
		m := marks(t, n)
		for _, i := range []int{-1, -64, n, n + 1, n + 64, math.MinInt, math.MaxInt} {
			if m.Claim(i) || m.Free(i) || m.Has(i) {
				t.Error("number", i, "of", n)
			}
		}
		if m.Count() != 0 || len(m.All()) != 0 || m.Len() != n {
			t.Error("marked of", n, m.All())
		}
	}
}

// P4.3: all marks, one by one.
func TestEachMark(t *testing.T) {
	m := marks(t, 65536)
	for i := 65535; i >= 0; i-- {
		if !m.Claim(i) {
			t.Fatal("Claim", i)
		}
	}
	l := m.All()
	if len(l) != 65536 || m.Count() != 65536 {
		t.Fatal("claimed", len(l), m.Count())
	}
	for i, got := range l {
		if got != i {
			t.Fatal("All has", got, "at", i)
		}
	}
	for i := range 65536 {
		if i%3 != 0 && !m.Free(i) {
			t.Fatal("Free", i)
		}
	}
	for i, got := range m.All() {
		if got != 3*i {
			t.Fatal("All has", got, "at", i)
		}
	}
	if m.Count() != 21846 {
		t.Error("Count", m.Count())
	}
}

// P4.3, rule 5: the numbers that All returns are new memory.
func TestAllGivesNewMemory(t *testing.T) {
	m := marks(t, 9, 2, 5)
	m.All()[0] = 7
	if !slices.Equal(m.All(), []int{2, 5}) {
		t.Error("All", m.All())
	}
}

// P4.3: marks do what a set does.
func TestMarksAreASet(t *testing.T) {
	r := rand.New(rand.NewSource(1))
	for round := 0; round < 50; round++ {
		n := r.Intn(200)
		m := marks(t, n)
		set := map[int]bool{}
		for step := 0; step < 300; step++ {
			i := r.Intn(210) - 5
			there := i >= 0 && i < n
			if m.Has(i) != set[i] {
				t.Fatal("Has", i, "of", n)
			}
			if r.Intn(2) == 0 {
				if m.Claim(i) != (there && !set[i]) {
					t.Fatal("Claim", i, "of", n)
				}
				if there {
					set[i] = true
				}
			} else {
				if m.Free(i) != set[i] {
					t.Fatal("Free", i, "of", n)
				}
				delete(set, i)
			}
		}
		var want []int
		for i := range n {
			if set[i] {
				want = append(want, i)
			}
		}
		if !slices.Equal(m.All(), want) || m.Count() != len(want) {
			t.Fatal("All", m.All(), "want", want)
		}
	}
}

// P4.3, P4.5: of many that claim a number one obtains it; of many that free it one removes its mark; neighbours in a word are not lost.
func TestClaimAndFreeOfMany(t *testing.T) {
	for round := 0; round < 20; round++ {
		m := marks(t, 200, 3, 64)
		var got [many][]int
		together(func(g int) {
			for k := range 200 {
				if i := (k*7 + g*13) % 200; m.Claim(i) {
					got[g] = append(got[g], i)
				}
			}
		})
		l := slices.Concat(got[:]...)
		slices.Sort(l)
		if len(l) != 198 || len(slices.Compact(l)) != 198 || m.Count() != 200 {
			t.Fatal("claims", len(l), m.Count())
		}
		var freed [many]int
		together(func(g int) {
			for i := range 200 {
				if i%2 == 0 && m.Free(i) {
					freed[g]++
				}
				if i%2 == 1 && m.Claim(i) {
					freed[g] += 1000
				}
			}
		})
		sum := 0
		for _, n := range freed {
			sum += n
		}
		if sum != 100 || m.Count() != 100 || m.Has(64) || !m.Has(3) {
			t.Fatal("freed", sum, m.Count())
		}
	}
}

// P4.4: the document's example, and edges.
func TestSweep(t *testing.T) {
	cases := []struct {
		name      string
		n         int
		marked    []int
		l         [][]int
		won, lost int
		after     []int
	}{
		{"example", 3, nil, [][]int{{0, 1}, {1, 2, 5}}, 3, 2, []int{0, 1, 2}},
		{"no list", 3, []int{1}, nil, 0, 0, []int{1}},
		{"empty lists", 3, nil, [][]int{{}, nil, {}}, 0, 0, nil},
		{"one list, twice the same", 3, nil, [][]int{{2, 2, 2}}, 1, 2, []int{2}},
		{"marked before", 3, []int{0, 1}, [][]int{{0, 1, 2}}, 1, 2, []int{0, 1, 2}},
		{"not there", 3, nil, [][]int{{-1, 3}, {math.MinInt, math.MaxInt}, {64}}, 0, 5, nil},
		{"no marks", 0, nil, [][]int{{0}, {1, -1}}, 0, 3, nil},
		{"many lists of one", 2, nil, [][]int{{0}, {1}, {0}, {1}, {0}, {1}, {0}}, 2, 5, []int{0, 1}},
	}
	for _, c := range cases {
		m := marks(t, c.n, c.marked...)
		won, lost := tally.Sweep(m, c.l)
		if won != c.won || lost != c.lost || !slices.Equal(m.All(), c.after) {
			t.Errorf("%s: won %d, lost %d, marked %v", c.name, won, lost, m.All())
		}
	}
}

// P4.4: for nil marks no claim succeeds.
func TestSweepOfNilMarks(t *testing.T) {
	if won, lost := tally.Sweep(nil, [][]int{{0, 1}, {}, {1, 2, -5}}); won != 0 || lost != 5 {
		t.Error("won", won, "lost", lost)
	}
	if won, lost := tally.Sweep(nil, nil); won != 0 || lost != 0 {
		t.Error("of nothing: won", won, "lost", lost)
	}
}

// P4.4, P4.5: won is the number of different numbers that exist and were not marked; lost is the rest. The lists stay as they are.
func TestSweepOfMany(t *testing.T) {
	r := rand.New(rand.NewSource(2))
	for round := 0; round < 100; round++ {
		n := r.Intn(300)
		m := marks(t, n)
		for range r.Intn(50) {
			m.Claim(r.Intn(300))
		}
		before := m.All()
		set := map[int]bool{}
		for _, i := range before {
			set[i] = true
		}
		l := make([][]int, r.Intn(40))
		total := 0
		for k := range l {
			for range r.Intn(60) {
				i := r.Intn(320) - 10
				l[k] = append(l[k], i)
				total++
				if i >= 0 && i < n {
					set[i] = true
				}
			}
		}
		var was [][]int
		for _, list := range l {
			was = append(was, slices.Clone(list))
		}
		won, lost := tally.Sweep(m, l)
		if won != len(set)-len(before) || won+lost != total {
			t.Fatal("won", won, "lost", lost, "want", len(set)-len(before), "of", total)
		}
		if m.Count() != len(set) {
			t.Fatal("marked", m.Count(), "want", len(set))
		}
		if !slices.EqualFunc(l, was, slices.Equal[[]int]) {
			t.Fatal("the lists were changed")
		}
	}
}

// P4.4, P4.5: many sweeps at the same time obtain each number once.
func TestSweepsOfMany(t *testing.T) {
	m := marks(t, 1000)
	l := make([][]int, 4)
	for k := range l {
		for i := range 1100 {
			l[k] = append(l[k], (i*7+k*311)%1100)
		}
	}
	var won, lost [many]int
	together(func(g int) {
		won[g], lost[g] = tally.Sweep(m, l)
	})
	sum := 0
	for g := range many {
		sum += won[g]
		if won[g]+lost[g] != 4400 {
			t.Error("won", won[g], "lost", lost[g])
		}
	}
	if sum != 1000 || m.Count() != 1000 {
		t.Error("won by all", sum, m.Count())
	}
}

// P1: on nil there is 0, false or nothing.
func TestNil(t *testing.T) {
	var c *tally.Clock
	if c.Next() != 0 || c.Now() != 0 || c.Reach(5) != 0 || c.Now() != 0 {
		t.Error("Clock")
	}
	var b *tally.Board
	if b.Add(0, 1) || b.Add(-1, 1) || b.At(0) != 0 || b.At(16) != 0 || b.Total() != 0 {
		t.Error("Board")
	}
	var m *tally.Marks
	if m.Claim(0) || m.Claim(-1) || m.Free(0) || m.Has(0) || m.Len() != 0 || m.Count() != 0 || len(m.All()) != 0 {
		t.Error("Marks")
	}
}
