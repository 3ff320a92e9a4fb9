package crc_test

import (
	"bytes"
	"hash/crc32"
	"math"
	"math/rand"
	"sync"
	"testing"

	"catenary/crc"
)

// sums are known checksums.
var sums = []struct {
	text string
	sum  uint32
}{
	{"", 0},
	{"\x00", 0xD202EF8D},
	{"a", 0xE8B7BE43},
	{"123456789", 0xCBF43926},
	{"The quick brown fox jumps over the lazy dog", 0x414FA339},
	{"\xff\xff\xff\xff", 0xFFFFFFFF},
}

func someBytes(r *rand.Rand, most int) []byte {
	b := make([]byte, r.Intn(most+1))
	r.Read(b)
	return b
}

// P2.1: the table is computed once, by the first call that needs it.
func TestTableIsComputedOnce(t *testing.T) {
	sealed := crc.New().Seal([]byte("x"))
	needs := map[string]func(s *crc.Table){
		"At":         func(s *crc.Table) { s.At(0) },
		"At the end": func(s *crc.Table) { s.At(255) },
		"Of":         func(s *crc.Table) { s.Of([]byte("x")) },
		"More":       func(s *crc.Table) { s.More(1, []byte("x")) },
		"Seal":       func(s *crc.Table) { s.Seal([]byte("x")) },
		"Fits":       func(s *crc.Table) { s.Fits(sealed) },
		"Of none":    func(s *crc.Table) { s.Of() },
		"More none":  func(s *crc.Table) { s.More(0, nil) },
		"Seal none":  func(s *crc.Table) { s.Seal(nil) },
		"Fits none":  func(s *crc.Table) { s.Fits(nil) },
	}
	for name, need := range needs {
		for _, s := range []*crc.Table{crc.New(), {}} {
			if s.Made() != 0 {
				t.Error(name, "made ahead:", s.Made())
			}
			need(s)
			if s.Made() != 1 {
				t.Error(name, "made by it:", s.Made())
			}
			for again, next := range needs {
				if next(s); s.Made() != 1 {
					t.Error(name, "made again by", again, s.Made())
				}
			}
		}
	}
}

// P2.1: what needs no table does not compute it.
func TestTableIsNotComputedEarly(t *testing.T) {
	s := crc.New()
	for _, i := range []int{-1, 256, math.MinInt, math.MaxInt} {
		if s.At(i) != 0 {
			t.Error("At", i, s.At(i))
		}
	}
	crc.Slow([]byte("x"))
	crc.New().Of([]byte("x"))
	if s.Made() != 0 {
		t.Error("made", s.Made())
	}
}

// P2.1: the table's numbers.
func TestAt(t *testing.T) {
	s := crc.New()
	for i := range 256 {
		if got, want := s.At(i), crc32.IEEETable[i]; got != want {
			t.Errorf("At %d: got %X, want %X", i, got, want)
		}
	}
	for _, i := range []int{-1, -256, 256, 257, math.MinInt, math.MaxInt} {
		if s.At(i) != 0 {
			t.Error("At", i, s.At(i))
		}
	}
}

// P2.1: many goroutines may share a table, and it is computed once for all of them.
func TestTableIsSharedByGoroutines(t *testing.T) {
	for round := 0; round < 50; round++ {
		s := crc.New()
		var got [16]uint32
		var all sync.WaitGroup
		for g := range got {
			all.Add(1)
			go func() {
				defer all.Done()
				got[g] = s.Of([]byte("123456789"))
			}()
		}
		all.Wait()
		for g, sum := range got {
			if sum != 0xCBF43926 {
				t.Fatalf("goroutine %d: %X", g, sum)
			}
		}
		if s.Made() != 1 {
			t.Fatal("made", s.Made())
		}
	}
}

// P2.2: known checksums, by each way to compute them.
func TestKnownSums(t *testing.T) {
	s := crc.New()
	for _, c := range sums {
		b := []byte(c.text)
		if got := s.Of(b); got != c.sum {
			t.Errorf("Of %q: %X", c.text, got)
		}
		if got := crc.Slow(b); got != c.sum {
			t.Errorf("Slow %q: %X", c.text, got)
		}
		if got := s.More(0, b); got != c.sum {
			t.Errorf("More %q: %X", c.text, got)
		}
	}
	if s.Of() != 0 || s.Of(nil, nil) != 0 || crc.Slow(nil) != 0 || s.More(0, nil) != 0 {
		t.Error("of no bytes")
	}
}

// P2.2: parts count as one, and More goes on behind a checksum.
func TestParts(t *testing.T) {
	r := rand.New(rand.NewSource(1))
	s := crc.New()
	for round := 0; round < 300; round++ {
		parts := make([][]byte, r.Intn(6))
		var whole []byte
		var more uint32
		for i := range parts {
			parts[i] = someBytes(r, 40)
			whole = append(whole, parts[i]...)
			more = s.More(more, parts[i])
		}
		was := append([]byte(nil), whole...)
		want := crc32.ChecksumIEEE(whole)
		if s.Of(parts...) != want || s.Of(whole) != want || crc.Slow(whole) != want || more != want {
			t.Fatalf("% x: want %X, got %X, %X, %X, %X", whole, want, s.Of(parts...), s.Of(whole), crc.Slow(whole), more)
		}
		if !bytes.Equal(whole, was) {
			t.Fatal("an argument was changed")
		}
	}
	if got := s.More(0xFFFFFFFF, []byte("ab")); got != crc32.Update(0xFFFFFFFF, crc32.IEEETable, []byte("ab")) {
		t.Errorf("More behind the greatest: %X", got)
	}
	if got := s.More(0x12345678, nil); got != 0x12345678 {
		t.Errorf("More of no bytes: %X", got)
	}
}

// P2.3: sealed bytes, the lowest byte of the checksum first.
func TestSeal(t *testing.T) {
	s := crc.New()
	if got := s.Seal([]byte("123456789")); string(got) != "123456789\x26\x39\xF4\xCB" {
		t.Errorf("Seal: % x", got)
	}
	if got := s.Seal(nil); string(got) != "\x00\x00\x00\x00" {
		t.Errorf("Seal of no bytes: % x", got)
	}
}

// P2.3: sealed bytes are new memory.
func TestSealGivesNewMemory(t *testing.T) {
	s := crc.New()
	room := []byte("abcdefgh")
	got := s.Seal(room[:2])
	if string(room) != "abcdefgh" {
		t.Errorf("Seal wrote behind its argument: %q", room)
	}
	got[0] = 'X'
	if room[0] != 'a' {
		t.Error("Seal shares its argument's memory")
	}
}

// P2.3: what fits, and what does not.
func TestFits(t *testing.T) {
	s := crc.New()
	for _, b := range []string{"123456789\x26\x39\xF4\xCB", "\x00\x00\x00\x00", "\xff\xff\xff\xff\xff\xff\xff\xff"} {
		if !s.Fits([]byte(b)) {
			t.Errorf("% x does not fit", b)
		}
	}
	wrong := []string{
		"", "\x00", "\x00\x00", "\x00\x00\x00",
		"\x00\x00\x00\x01", "\x01\x00\x00\x00", "\x00\x00\x00\x00\x00",
		"123456789\xCB\xF4\x39\x26",
		"123456789\x26\x39\xF4",
		"123456788\x26\x39\xF4\xCB",
		"123456789\x26\x39\xF4\xCB\x00",
	}
	for _, b := range wrong {
		if s.Fits([]byte(b)) {
			t.Errorf("% x fits", b)
		}
	}
}

// P2.4: which bits are flipped.
func TestTurn(t *testing.T) {
	cases := []struct {
		in      string
		bit     int
		pattern uint32
		want    string
	}{
		{"\x00\x00\x00", 0, 1, "\x01\x00\x00"},
		{"\x00\x00\x00", 7, 1, "\x80\x00\x00"},
		{"\x00\x00\x00", 8, 1, "\x00\x01\x00"},
		{"\x00\x00\x00", 23, 1, "\x00\x00\x80"},
		{"\x00\x00\x00", 24, 1, "\x00\x00\x00"},
		{"\xff\xff\xff", 10, 5, "\xff\xeb\xff"},
		{"\x00\x00\x00", 7, 3, "\x80\x01\x00"},
		{"\x00\x00\x00", 1, 0x80, "\x00\x01\x00"},
		{"\x00\x00\x00", 4, 0, "\x00\x00\x00"},
		{"\x00\x00\x00\x00\x00", 4, 0x80000001, "\x10\x00\x00\x00\x08"},
		{"\x00\x00\x00\x00\x00", 0, 0x04030201, "\x01\x02\x03\x04\x00"},
		{"\x00\x00\x00\x00", 0, 0xFFFFFFFF, "\xff\xff\xff\xff"},
		{"\x00\x00\x00", 20, 0xFFFFFFFF, "\x00\x00\xf0"},
		{"\x00\x00\x00", -1, 0xFFFFFFFF, "\x00\x00\x00"},
		{"\x00\x00\x00", -32, 0xFFFFFFFF, "\x00\x00\x00"},
		{"\x12", math.MinInt, 0xFFFFFFFF, "\x12"},
		{"\x12", math.MaxInt, 0xFFFFFFFF, "\x12"},
		{"\x12", math.MaxInt - 31, 0xFFFFFFFF, "\x12"},
		{"", 0, 1, ""},
	}
	for _, c := range cases {
		in := []byte(c.in)
		if got := crc.Turn(in, c.bit, c.pattern); string(got) != c.want {
			t.Errorf("Turn % x at %d by %X: got % x, want % x", c.in, c.bit, c.pattern, got, c.want)
		}
		if string(in) != c.in {
			t.Errorf("Turn % x at %d by %X changed its argument", c.in, c.bit, c.pattern)
		}
	}
}

// P2.4: turned bytes are new memory, whether a bit was flipped or not.
func TestTurnGivesNewMemory(t *testing.T) {
	for _, bit := range []int{-1, 0, 99} {
		in := []byte("abc")
		crc.Turn(in, bit, 0)[0] = 'X'
		if string(in) != "abc" {
			t.Error("shared memory at", bit)
		}
	}
}

// P2.5: what is sealed fits, and what was turned within 32 bits does not.
func TestTurnedDoesNotFit(t *testing.T) {
	r := rand.New(rand.NewSource(2))
	s := crc.New()
	for round := 0; round < 100; round++ {
		sealed := s.Seal(someBytes(r, 24))
		if !s.Fits(sealed) {
			t.Fatalf("% x does not fit", sealed)
		}
		for bit := 0; bit < 8*len(sealed); bit++ {
			for _, pattern := range []uint32{0, 1, 3, 0x80000001, 0xFFFFFFFF, 0xEDB88320, r.Uint32(), r.Uint32()} {
				turned := crc.Turn(sealed, bit, pattern)
				if s.Fits(turned) != bytes.Equal(turned, sealed) {
					t.Fatalf("% x turned at %d by %X: fits %v", sealed, bit, pattern, s.Fits(turned))
				}
			}
		}
	}
}

// P1: of a nil table nothing comes.
func TestNil(t *testing.T) {
	var s *crc.Table
	b := []byte("123456789\x26\x39\xF4\xCB")
	if s.At(1) != 0 || s.At(-1) != 0 || s.Of(b) != 0 || s.Of() != 0 || s.More(7, b) != 0 || s.More(7, nil) != 0 || len(s.Seal(b)) != 0 || s.Fits(b) || s.Fits(nil) || s.Made() != 0 {
		t.Error("a nil table answers something")
	}
}
