package ballot_test

import (
	"math"
	"math/rand"
	"slices"
	"testing"

	"catenary/api"
	"catenary/ballot"
)

const (
	lastRound  = 1<<60 - 1
	lastBallot = 8*lastRound + 5
)

// isBallot says it in the document's words: 8 times a round, plus a master.
func isBallot(b uint64) bool {
	round, who := b/8, b%8
	return round >= 1 && round <= lastRound && who >= 1 && who <= 5
}

// noMasters are numbers that no master has; some of them are one's, if cut to fewer bits.
var noMasters = []int{0, -1, -3, 6, 7, 8, 9, 103, 1<<8 + 1, 1<<32 + 1, 1<<61 + 1, math.MinInt, math.MinInt + 3, math.MaxInt}

// edges are numbers beside the least and the greatest ballots, and others that are none.
var edges = []uint64{
	0, 1, 2, 5, 6, 7, 8, 9, 10, 13, 14, 15, 16, 17,
	1 << 32, 1<<32 + 1, 1<<62 + 5, 1<<62 + 6,
	lastBallot - 9, lastBallot - 8, lastBallot - 5, lastBallot - 4, lastBallot - 1, lastBallot, lastBallot + 1, lastBallot + 2,
	1 << 63, 1<<63 + 1, 1<<63 + 5, 1<<63 + 11, math.MaxUint64 - 7, math.MaxUint64 - 2, math.MaxUint64,
}

// P7.1: a ballot is 8 times its round, plus its master; the document's example ahead.
func TestOf(t *testing.T) {
	if b, e := ballot.Of(1, 3); b != 11 || e != api.OK {
		t.Error("of 1 and 3", b, int(e))
	}
	for _, round := range []uint64{1, 2, 3, 1000, 1 << 59, lastRound - 1, lastRound} {
		for who := 1; who <= api.MaxMasters; who++ {
			b, e := ballot.Of(round, who)
			if b != 8*round+uint64(who) || e != api.OK {
				t.Error("of", round, who, "is", b, int(e))
			}
		}
		for _, who := range noMasters {
			if b, e := ballot.Of(round, who); b != 0 || e != api.ErrArg {
				t.Error("of", round, who, "is", b, int(e))
			}
		}
	}
	for _, round := range []uint64{0, lastRound + 1, lastRound + 2, 1 << 61, 1<<61 + 1, 1 << 63, math.MaxUint64} {
		for _, who := range append([]int{1, 2, 3, 4, 5}, noMasters...) {
			if b, e := ballot.Of(round, who); b != 0 || e != api.ErrArg {
				t.Error("of", round, who, "is", b, int(e))
			}
		}
	}
}

// checkParts holds Is, Round and Who of b against the document's words.
func checkParts(t *testing.T, b uint64) {
	t.Helper()
	is, round, who := isBallot(b), b/8, int(b%8)
	if !is {
		round, who = 0, 0
	}
	if ballot.Is(b) != is || ballot.Round(b) != round || ballot.Who(b) != who {
		t.Error(b, "is a ballot", ballot.Is(b), "of", ballot.Round(b), ballot.Who(b))
	}
}

// P7.1: which numbers are ballots, and of which round and master.
func TestIsRoundAndWho(t *testing.T) {
	for b := range uint64(200) {
		checkParts(t, b)
	}
	for _, b := range edges {
		checkParts(t, b)
	}
	random := rand.New(rand.NewSource(7))
	for range 5000 {
		checkParts(t, random.Uint64()>>random.Intn(64))
	}
	for _, b := range []uint64{9, 13, lastBallot - 4, lastBallot} {
		if !ballot.Is(b) {
			t.Error(b, "is a ballot")
		}
	}
	for _, b := range []uint64{0, 3, 8, 14, 15, 16, lastBallot + 1, 1<<63 + 1} {
		if ballot.Is(b) {
			t.Error(b, "is no ballot")
		}
	}
}

// P7.1, P7.4: the least ballot of the master that is above: found here by going up number by number.
func TestNext(t *testing.T) {
	if b, e := ballot.Next(11, 2); b != 18 || e != api.OK {
		t.Error("of 11 and 2", b, int(e))
	}
	for b := range uint64(120) {
		for who := 1; who <= api.MaxMasters; who++ {
			want := b + 1
			for !isBallot(want) || int(want%8) != who {
				want++
			}
			if got, e := ballot.Next(b, who); got != want || e != api.OK {
				t.Error("of", b, who, "is", got, int(e), "want", want)
			}
		}
	}
}

// P7.1: at the last ballots there is a next one, or ErrFull; b need not be a ballot.
func TestNextAtTheEnd(t *testing.T) {
	const top = 8 * lastRound
	for _, c := range []struct {
		b    uint64
		who  int
		want uint64
	}{
		{top - 8, 1, top - 7}, {top - 7, 1, top + 1}, {top - 4, 5, top - 3}, {top - 3, 5, top + 5}, {top - 2, 1, top + 1}, {top - 1, 5, top + 5},
		{top, 1, top + 1}, {top, 5, top + 5}, {top + 1, 2, top + 2}, {top + 1, 5, top + 5}, {top + 4, 5, top + 5},
		{top + 1, 1, 0}, {top + 2, 1, 0}, {top + 4, 4, 0}, {top + 5, 1, 0}, {top + 5, 5, 0}, {top + 6, 5, 0}, {top + 7, 1, 0},
		{1 << 63, 1, 0}, {1 << 63, 5, 0}, {1<<63 + 3, 5, 0}, {math.MaxUint64 - 7, 1, 0}, {math.MaxUint64 - 7, 5, 0}, {math.MaxUint64, 1, 0}, {math.MaxUint64, 5, 0},
		{1<<62 + 6, 3, 1<<62 + 11}, {1 << 62, 3, 1<<62 + 3},
	} {
		full := api.OK
		if c.want == 0 {
			full = api.ErrFull
		}
		if got, e := ballot.Next(c.b, c.who); got != c.want || e != full {
			t.Error("of", c.b, c.who, "is", got, int(e), "want", c.want)
		}
	}
}

// P7.1: ErrArg of no master, ahead of ErrFull.
func TestNextOfNoMaster(t *testing.T) {
	for _, b := range edges {
		for _, who := range noMasters {
			if got, e := ballot.Next(b, who); got != 0 || e != api.ErrArg {
				t.Error("of", b, who, "is", got, int(e))
			}
		}
	}
}

// P7.4: Next is above its argument, a ballot of that master, and the one before it is not above.
func TestNextIsAbove(t *testing.T) {
	random := rand.New(rand.NewSource(74))
	for range 20000 {
		b, who := random.Uint64()>>random.Intn(64), 1+random.Intn(5)
		next, e := ballot.Next(b, who)
		if e != api.OK {
			if e != api.ErrFull || next != 0 || b < 8*lastRound+uint64(who) {
				t.Fatal("of", b, who, "is", next, int(e))
			}
			continue
		}
		if next <= b || !ballot.Is(next) || ballot.Who(next) != who || next-8 > b && ballot.Is(next-8) {
			t.Fatal("of", b, who, "is", next)
		}
	}
}

// P7.4: no two masters have a common ballot, and none has one of two rounds.
func TestBallotsDiffer(t *testing.T) {
	seen := map[uint64]bool{}
	for round := uint64(1); round <= 200; round++ {
		for who := 1; who <= api.MaxMasters; who++ {
			b, e := ballot.Of(round, who)
			if e != api.OK || seen[b] || ballot.Round(b) != round || ballot.Who(b) != who {
				t.Error("of", round, who, "is", b, int(e))
			}
			seen[b] = true
		}
	}
	for who := 1; who <= api.MaxMasters; who++ {
		for other := 1; other <= api.MaxMasters; other++ {
			a, _ := ballot.Next(40, who)
			b, _ := ballot.Next(40, other)
			if (a == b) != (who == other) {
				t.Error("masters", who, other, "have", a, b)
			}
		}
	}
}

// noMembers are numbers that are in no set.
var noMembers = []int{0, -1, -63, -64, 64, 65, 127, 1 << 8, 1<<32 + 1, math.MinInt, math.MinInt + 1, math.MaxInt}

// P7.2: what can be a member is added, all else is not, and bit 0 goes.
func TestWith(t *testing.T) {
	for _, c := range []struct {
		s    uint64
		l    []int
		want uint64
	}{
		{0, nil, 0}, {1, nil, 0}, {6, nil, 6}, {7, nil, 6}, {math.MaxUint64, nil, math.MaxUint64 - 1},
		{0, []int{1}, 2}, {0, []int{1, 2, 1}, 6}, {8, []int{3}, 8}, {9, []int{1, 3}, 10}, {0, []int{63}, 1 << 63}, {2, []int{62, 63}, 3<<62 + 2},
		{0, noMembers, 0}, {5, noMembers, 4}, {1 << 63, append([]int{5, -5}, noMembers...), 1<<63 + 32}, {0, []int{64, 1, 0, 2, -1}, 6},
	} {
		was := slices.Clone(c.l)
		if got := ballot.With(c.s, c.l...); got != c.want {
			t.Errorf("%x with %v is %x; want %x", c.s, c.l, got, c.want)
		}
		if !slices.Equal(c.l, was) {
			t.Error("an argument was changed", c.l)
		}
	}
	if got := ballot.With(0, 1, 3); got != 10 {
		t.Error("with 1 and 3", got)
	}
	all := make([]int, 63)
	for k := range all {
		all[k] = 63 - k
	}
	if got := ballot.With(0, all...); got != math.MaxUint64-1 {
		t.Errorf("with all %x", got)
	}
}

// P7.2: Has, List and Count say the same about each set; bit 0 is no member's.
func TestHasListAndCount(t *testing.T) {
	random := rand.New(rand.NewSource(72))
	sets := []uint64{0, 1, 2, 3, 10, 1 << 63, 1<<63 + 1, math.MaxUint64, math.MaxUint64 - 1, 0xaaaaaaaaaaaaaaaa, 0x5555555555555555}
	for range 500 {
		sets = append(sets, random.Uint64()&random.Uint64())
	}
	for _, s := range sets {
		var want []int
		for i, bit := 1, uint64(2); i <= 63; i, bit = i+1, bit*2 {
			is := s&bit != 0
			if is {
				want = append(want, i)
			}
			if ballot.Has(s, i) != is {
				t.Errorf("%x has %d: %v", s, i, !is)
			}
		}
		if got := ballot.List(s); !slices.Equal(got, want) {
			t.Errorf("%x has %v; want %v", s, got, want)
		}
		if got := ballot.Count(s); got != len(want) {
			t.Errorf("%x has %d; want %d", s, got, len(want))
		}
		for _, i := range noMembers {
			if ballot.Has(s, i) {
				t.Errorf("%x has %d", s, i)
			}
		}
	}
}

// P7.2: half, rounded down, plus one.
func TestQuorum(t *testing.T) {
	for n, want := range []int{0, 1, 2, 2, 3, 3, 4, 4} {
		if got := ballot.Quorum(n); got != want {
			t.Error("of", n, "is", got)
		}
	}
	for _, c := range []struct{ n, want int }{
		{math.MinInt, 0}, {-2, 0}, {-1, 0}, {63, 32}, {100, 51}, {math.MaxInt - 1, math.MaxInt/2 + 1}, {math.MaxInt, math.MaxInt/2 + 1},
	} {
		if got := ballot.Quorum(c.n); got != c.want {
			t.Error("of", c.n, "is", got)
		}
	}
}

// P7.2: only the numbers from 1 to n count.
func TestEnough(t *testing.T) {
	for _, c := range []struct {
		l    []int
		n    int
		want bool
	}{
		{nil, 0, false}, {[]int{1, 2, 3}, 0, false}, {[]int{1, 2, 3}, -1, false}, {[]int{1, 2, 3}, math.MinInt, false},
		{nil, 1, false}, {[]int{2}, 1, false}, {[]int{1}, 1, true},
		{[]int{1}, 2, false}, {[]int{2}, 2, false}, {[]int{1, 2}, 2, true}, {[]int{1, 3}, 2, false},
		{[]int{1}, 3, false}, {[]int{1, 3}, 3, true}, {[]int{3, 4, 5}, 3, false}, {[]int{2, 3, 63}, 3, true},
		{[]int{1, 2}, 4, false}, {[]int{1, 2, 5}, 4, false}, {[]int{1, 2, 4}, 4, true},
		{[]int{1, 5}, 5, false}, {[]int{1, 4, 5}, 5, true}, {[]int{2, 3, 6}, 5, false},
		{[]int{1, 2, 3}, 1 << 32, false}, {[]int{1, 2, 3}, math.MaxInt, false},
	} {
		if got := ballot.Enough(ballot.With(0, c.l...), c.n); got != c.want {
			t.Error(c.l, "of", c.n, "is", got)
		}
	}
	if ballot.Enough(1, 1) || ballot.Enough(3, 2) {
		t.Error("bit 0 counts")
	}
}

// P7.2: sets with all members are Enough for as many as twice their members, less one.
func TestEnoughOfAll(t *testing.T) {
	for n := 1; n <= 200; n++ {
		if got := ballot.Enough(math.MaxUint64, n); got != (n <= 125) {
			t.Error("of", n, "is", got)
		}
	}
	for _, c := range []struct {
		first, n int
		want     bool
	}{{32, 63, true}, {33, 63, false}, {31, 64, true}, {32, 64, false}, {1, 125, true}, {2, 125, false}} {
		if got := ballot.Enough(math.MaxUint64<<c.first, c.n); got != c.want {
			t.Error("from", c.first, "of", c.n, "is", got)
		}
	}
	for _, n := range []int{126, math.MaxInt - 1, math.MaxInt} {
		if ballot.Enough(math.MaxUint64, n) {
			t.Error("of", n)
		}
	}
}

// P7.2: what both have, in order; bit 0 is nobody's.
func TestMeet(t *testing.T) {
	for _, c := range []struct{ a, b, want []int }{
		{nil, nil, nil}, {[]int{1, 2}, nil, nil}, {nil, []int{1, 2}, nil}, {[]int{1}, []int{2}, nil},
		{[]int{3, 1, 2}, []int{2, 3, 4}, []int{2, 3}}, {[]int{63, 1}, []int{1, 63}, []int{1, 63}}, {[]int{5, 63}, []int{63}, []int{63}},
	} {
		a, b := ballot.With(0, c.a...), ballot.With(0, c.b...)
		for _, bit := range []uint64{0, 1} {
			if got := ballot.Meet(a|bit, b|bit); !slices.Equal(got, c.want) {
				t.Error(c.a, "and", c.b, "meet in", got)
			}
		}
	}
}

// P7.3: two sets that are Enough for n have a member in common among 1 to n; of all sets of numbers to a little beyond n.
func TestTwoThatAreEnoughMeet(t *testing.T) {
	for n := 1; n <= 6; n++ {
		var enough []uint64
		for s := range uint64(1) << (n + 3) {
			there := 0
			for i := 1; i <= n; i++ {
				there += int(s >> i & 1)
			}
			if got := ballot.Enough(s, n); got != (2*there > n) {
				t.Fatalf("%b of %d is %v", s, n, got)
			} else if got {
				enough = append(enough, s)
			}
		}
		for _, a := range enough {
			for _, b := range enough {
				if l := ballot.Meet(a, b); len(l) == 0 || l[0] < 1 || l[0] > n {
					t.Fatalf("%b and %b of %d meet in %v", a, b, n, l)
				}
			}
		}
	}
}

// Rule 5: lists are new memory each time.
func TestListsAreNew(t *testing.T) {
	l, m := ballot.List(6), ballot.Meet(6, 7)
	l[0], m[1] = 9, 9
	if !slices.Equal(ballot.List(6), []int{1, 2}) || !slices.Equal(ballot.Meet(6, 7), []int{1, 2}) {
		t.Error("a list was kept")
	}
}
