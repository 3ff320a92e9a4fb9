package latch_test

import (
	"errors"
	"math"
	"runtime"
	"slices"
	"sync"
	"sync/atomic"
	"testing"
	"time"

	"catenary/latch"
)

// many is how many goroutines do something at the same time.
const many = 16

// together does it in many goroutines, and waits for all of them.
func together(do func(g int)) {
	var begin, all sync.WaitGroup
	begin.Add(1)
	for g := range many {
		all.Add(1)
		go func() {
			defer all.Done()
			begin.Wait()
			do(g)
		}()
	}
	begin.Done()
	all.Wait()
}

func wantValue[T comparable](t *testing.T, name string, l *latch.Latch[T], want T, there bool) {
	t.Helper()
	if got, ok := l.Get(); got != want || ok != there {
		t.Errorf("%s: Get %v, %v; want %v, %v", name, got, ok, want, there)
	}
}

// P5.1: a new latch has no value, and so has its neighbour when it is set.
func TestNewLatchIsEmpty(t *testing.T) {
	a, b := latch.New[int](), latch.New[int]()
	wantValue(t, "new", a, 0, false)
	wantValue(t, "new, asked again", a, 0, false)
	a.Set(3)
	wantValue(t, "set", a, 3, true)
	wantValue(t, "its neighbour", b, 0, false)
}

// P5.1: the first value remains, the document's example ahead.
func TestSetOnce(t *testing.T) {
	l := latch.New[int]()
	if !l.Set(3) {
		t.Error("the first Set")
	}
	wantValue(t, "set to 3", l, 3, true)
	for _, v := range []int{4, 3, 0, -1} {
		if l.Set(v) {
			t.Error("a later Set of", v)
		}
		wantValue(t, "set again", l, 3, true)
	}
}

// P5.1: a zero value is a value, too.
func TestSetOfZeroValues(t *testing.T) {
	n := latch.New[int]()
	if !n.Set(0) || n.Set(5) {
		t.Error("0, then 5")
	}
	wantValue(t, "0", n, 0, true)
	if n.Or(7) != 0 {
		t.Error("Or", n.Or(7))
	}
	s := latch.New[string]()
	if !s.Set("") || s.Set("x") {
		t.Error("no text, then some")
	}
	wantValue(t, "no text", s, "", true)
	e := latch.New[error]()
	if !e.Set(nil) || e.Set(errors.New("x")) {
		t.Error("nil, then an error")
	}
	if got, ok := e.Get(); got != nil || !ok {
		t.Error("nil error", got, ok)
	}
	p := latch.New[*int]()
	if !p.Set(nil) || p.Set(new(int)) {
		t.Error("nil, then a pointer")
	}
	wantValue(t, "nil pointer", p, nil, true)
}

// P5.1, rule 5: a value of any type is kept as it is.
func TestValuesAreKeptAsTheyAre(t *testing.T) {
	l := latch.New[[]int]()
	v := []int{1, 2}
	l.Set(v)
	v[0] = 9
	got, ok := l.Get()
	if !ok || !slices.Equal(got, []int{9, 2}) || &got[0] != &v[0] {
		t.Error("a slice", got, ok)
	}
	f := latch.New[func() int]()
	f.Set(func() int { return 7 })
	if got, ok := f.Get(); !ok || got() != 7 {
		t.Error("a function")
	}
	type pair struct {
		n int
		s string
	}
	p := latch.New[pair]()
	p.Set(pair{3, "x"})
	wantValue(t, "a struct", p, pair{3, "x"}, true)
}

// P5.1: Or gives the value, or what is handed in, and sets nothing.
func TestOr(t *testing.T) {
	l := latch.New[string]()
	if got := l.Or("a"); got != "a" {
		t.Error("of none", got)
	}
	wantValue(t, "behind Or", l, "", false)
	if got := l.Or("b"); got != "b" {
		t.Error("of none, once more", got)
	}
	if !l.Set("c") {
		t.Error("Set behind Or")
	}
	if got := l.Or("d"); got != "c" {
		t.Error("of c", got)
	}
	wantValue(t, "behind the last Or", l, "c", true)
}

// big is a value that takes a while to be written, so that who sets it at the wrong time, or reads it too early, is seen.
type big [64]int

// P5.1, P5.4: of many that set a latch one wins; the value is there for who lost, and never another one.
func TestSetOfMany(t *testing.T) {
	var latches [3000]*latch.Latch[big]
	for k := range latches {
		latches[k] = latch.New[big]()
	}
	var won, seen [many][len(latches)]int
	together(func(g int) {
		var mine, none big
		for i := range mine {
			mine[i] = g + 1
		}
		for k, l := range latches {
			ahead, there := l.Get()
			if l.Set(mine) {
				won[g][k]++
			}
			behind, ok := l.Get()
			seen[g][k] = behind[0]
			for i := range behind {
				ok = ok && behind[i] == behind[0]
			}
			if !ok || l.Set(none) || l.Or(none) != behind || there && ahead != behind {
				t.Error("latch", k, "has", ahead, there, "and then", behind)
			}
		}
	})
	for k := range latches {
		winner, sum := 0, 0
		for g := range many {
			if sum += won[g][k]; won[g][k] == 1 {
				winner = g + 1
			}
		}
		if sum != 1 {
			t.Fatal("latch", k, "was set", sum, "times")
		}
		for g := range many {
			if seen[g][k] != winner {
				t.Fatal("latch", k, "was set to", winner, "and seen as", seen[g][k])
			}
		}
	}
}

// P5.2: the function is called when the value is first requested, and never again.
func TestLazyIsComputedOnce(t *testing.T) {
	calls := 0
	l := latch.Of(func() int { calls++; return 40 + calls })
	if calls != 0 || l.Runs() != 0 {
		t.Error("computed early", calls, l.Runs())
	}
	for range 3 {
		if got := l.Get(); got != 41 || calls != 1 || l.Runs() != 1 {
			t.Error("Get", got, "calls", calls, "Runs", l.Runs())
		}
	}
	other := latch.Of(func() int { return 5 })
	if other.Runs() != 0 || other.Get() != 5 || l.Get() != 41 {
		t.Error("its neighbour")
	}
}

// P5.2: a zero value is computed once, too.
func TestLazyZeroIsComputedOnce(t *testing.T) {
	calls := 0
	l := latch.Of(func() error { calls++; return nil })
	if l.Get() != nil || l.Get() != nil || calls != 1 || l.Runs() != 1 {
		t.Error("calls", calls, "Runs", l.Runs())
	}
}

// P5.2, rule 5: what the function returns is given out as it is.
func TestLazyValueIsKeptAsItIs(t *testing.T) {
	v := []int{1, 2}
	l := latch.Of(func() []int { return v })
	if got := l.Get(); &got[0] != &v[0] || &l.Get()[0] != &v[0] {
		t.Error("another slice")
	}
}

// P5.2: without a function there is the zero value, computed by no call.
func TestLazyOfNil(t *testing.T) {
	l := latch.Of[string](nil)
	for range 2 {
		if l.Get() != "" || l.Runs() != 0 {
			t.Error("Get", l.Get(), "Runs", l.Runs())
		}
	}
	if got := latch.Rush(l, 3); !slices.Equal(got, []string{"", "", ""}) || l.Runs() != 0 {
		t.Error("Rush", got, l.Runs())
	}
}

// P5.2: who asks while the value is computed waits for it; it is computed once, however many ask.
func TestLazyOfMany(t *testing.T) {
	for range 50 {
		var calls atomic.Int64
		l := latch.Of(func() int64 {
			runtime.Gosched()
			return 70 + calls.Add(1)
		})
		var got [many]int64
		together(func(g int) {
			got[g] = l.Get()
			if l.Runs() != 1 {
				t.Error("Runs", l.Runs())
			}
		})
		if calls.Load() != 1 || l.Runs() != 1 {
			t.Fatal("calls", calls.Load(), "Runs", l.Runs())
		}
		for _, v := range got {
			if v != 71 {
				t.Fatal("got", got)
			}
		}
	}
}

// P5.2, P1: a function that panics has been called, and leaves the zero value.
func TestLazyThatPanics(t *testing.T) {
	calls := 0
	l := latch.Of(func() int { calls++; panic("x") })
	for range 2 {
		if got := l.Get(); got != 0 || calls != 1 || l.Runs() != 1 {
			t.Error("Get", got, "calls", calls, "Runs", l.Runs())
		}
	}
	var none []int
	rushed := latch.Of(func() int { return none[3] })
	if got := latch.Rush(rushed, 5); !slices.Equal(got, make([]int, 5)) || rushed.Runs() != 1 {
		t.Error("Rush", got, rushed.Runs())
	}
}

// P5.3: how many got true, and what the latch has then.
func TestRace(t *testing.T) {
	l := latch.New[int]()
	if got := latch.Race(l); got != 0 {
		t.Error("of none", got)
	}
	wantValue(t, "raced by none", l, 0, false)
	if got := latch.Race(l, 8); got != 1 {
		t.Error("of one", got)
	}
	wantValue(t, "raced by 8", l, 8, true)
	if got := latch.Race(l, 1, 2, 3); got != 0 {
		t.Error("of a latch with a value", got)
	}
	wantValue(t, "raced again", l, 8, true)
	if got := latch.Race(l); got != 0 {
		t.Error("of none, with a value", got)
	}
	same := latch.New[int]()
	if got := latch.Race(same, 5, 5, 5, 5); got != 1 {
		t.Error("of equal values", got)
	}
	wantValue(t, "raced by equal ones", same, 5, true)
}

// P5.3, P5.4: one wins, however many race, and the latch has its value; what is handed in stays.
func TestRaceOfMany(t *testing.T) {
	for n := 1; n <= 200; n++ {
		v := make([]int, n)
		for k := range v {
			v[k] = 1000*n + k
		}
		was := slices.Clone(v)
		l := latch.New[int]()
		if got := latch.Race(l, v...); got != 1 {
			t.Fatal("won", got, "of", n)
		}
		if got, ok := l.Get(); !ok || !slices.Contains(was, got) {
			t.Fatal("the latch has", got, ok)
		}
		if !slices.Equal(v, was) {
			t.Fatal("an argument was changed")
		}
	}
}

// P5.3, P5.4: many races for one latch have one winner in all.
func TestRacesOfMany(t *testing.T) {
	for range 50 {
		l := latch.New[int]()
		var won [many]int
		together(func(g int) {
			won[g] = latch.Race(l, 100*g, 100*g+1, 100*g+2)
		})
		sum, winner := 0, -1
		for g, n := range won {
			if sum += n; n == 1 {
				winner = g
			}
		}
		if got, ok := l.Get(); sum != 1 || !ok || got/100 != winner || got%100 > 2 {
			t.Fatal("won", won, "and the latch has", got, ok)
		}
	}
}

// P5.3: how many rush.
func TestRush(t *testing.T) {
	for _, c := range []struct{ n, want int }{
		{math.MinInt, 0}, {-1, 0}, {0, 0}, {1, 1}, {2, 2}, {63, 63}, {64, 64}, {65, 64}, {1000, 64}, {math.MaxInt, 64},
	} {
		var calls atomic.Int64
		l := latch.Of(func() int64 { return 20 + calls.Add(1) })
		got := latch.Rush(l, c.n)
		if len(got) != c.want {
			t.Error("of", c.n, "there are", len(got))
		}
		for _, v := range got {
			if v != 21 {
				t.Error("of", c.n, "got", v)
			}
		}
		if runs := min(c.want, 1); calls.Load() != int64(runs) || l.Runs() != runs {
			t.Error("of", c.n, "calls", calls.Load(), "Runs", l.Runs())
		}
		if none := latch.Rush[string](nil, c.n); len(none) != c.want || slices.Contains(none, "x") || len(slices.Compact(none)) > 1 {
			t.Error("of nil", c.n, "got", none)
		}
	}
}

// P5.3: a value that was computed before is given to all that rush; each Rush returns new memory.
func TestRushOfWhatIsComputed(t *testing.T) {
	calls := 0
	l := latch.Of(func() string { calls++; return "v" })
	l.Get()
	first, second := latch.Rush(l, 2), latch.Rush(l, 3)
	first[0] = "x"
	if !slices.Equal(second, []string{"v", "v", "v"}) || first[1] != "v" || l.Get() != "v" || calls != 1 || l.Runs() != 1 {
		t.Error("got", first, second, "calls", calls)
	}
}

// P5.3: those that rush do it at the same time: while one of them computes the value, all others are there.
func TestRushIsAtTheSameTime(t *testing.T) {
	late := time.Now().Add(20 * time.Second)
	there := 0
	l := latch.Of(func() int {
		for there <= 64 && time.Now().Before(late) { // 64 that rush, and this test
			runtime.Gosched()
			there = runtime.NumGoroutine()
		}
		return 7
	})
	if got := latch.Rush(l, 64); len(got) != 64 || got[0] != 7 || got[63] != 7 {
		t.Error("got", got)
	}
	if there <= 64 {
		t.Error("goroutines while the value is computed:", there)
	}
}

// P5.3, P5.4: many rush many times, all get the same value, computed once.
func TestRushesOfMany(t *testing.T) {
	for range 20 {
		var calls atomic.Int64
		l := latch.Of(func() *int64 { n := calls.Add(1); return &n })
		var got [many][]*int64
		together(func(g int) { got[g] = latch.Rush(l, g+1) })
		all := slices.Concat(got[:]...)
		if len(all) != many*(many+1)/2 || calls.Load() != 1 || l.Runs() != 1 {
			t.Fatal("got", len(all), "calls", calls.Load(), "Runs", l.Runs())
		}
		for _, p := range all {
			if p == nil || p != all[0] {
				t.Fatal("not all got the same")
			}
		}
	}
}

// P1: on nil there is the zero value, false or 0.
func TestNil(t *testing.T) {
	var l *latch.Latch[int]
	if l.Set(3) {
		t.Error("Set")
	}
	wantValue(t, "nil", l, 0, false)
	if got := l.Or(5); got != 0 {
		t.Error("Or", got)
	}
	if got := latch.Race(l, 1, 2, 3); got != 0 {
		t.Error("Race", got)
	}
	if got := latch.Race(l); got != 0 {
		t.Error("Race of none", got)
	}
	var z *latch.Lazy[string]
	if z.Get() != "" || z.Runs() != 0 {
		t.Error("Lazy", z.Get(), z.Runs())
	}
	if got := latch.Rush(z, 2); !slices.Equal(got, []string{"", ""}) || z.Runs() != 0 {
		t.Error("Rush", got)
	}
}
