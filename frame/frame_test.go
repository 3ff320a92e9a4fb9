package frame_test

import (
	"bytes"
	"hash/crc32"
	"math/rand"
	"sync"
	"testing"

	"catenary/api"
	"catenary/crc"
	"catenary/frame"
)

func someBytes(r *rand.Rand, most int) []byte {
	b := make([]byte, r.Intn(most+1))
	r.Read(b)
	return b
}

func someFrame(r *rand.Rand) frame.Frame {
	return frame.Frame{Kind: byte(1 + r.Intn(255)), Body: someBytes(r, 30)}
}

// sealed puts the right checksum behind b, by a way that the program does not share.
func sealed(b string) string {
	s := crc32.ChecksumIEEE([]byte(b))
	return b + string([]byte{byte(s), byte(s >> 8), byte(s >> 16), byte(s >> 24)})
}

// letters is a body of n bytes.
func letters(n int) string {
	return string(bytes.Repeat([]byte{'x'}, n))
}

func bytesOf(t *testing.T, f frame.Frame) []byte {
	t.Helper()
	b, e := frame.New(nil).Put(f)
	if e != api.OK {
		t.Fatal("Put: error", int(e))
	}
	return b
}

func wantCounts(t *testing.T, name string, c *frame.Codec, good, bad uint64) {
	t.Helper()
	if g, b := c.Counts(); g != good || b != bad {
		t.Errorf("%s: counts %d, %d; want %d, %d", name, g, b, good, bad)
	}
}

// P3.1: a codec uses the table that it is given, and one of its own if there is none.
func TestNewTakesTheTable(t *testing.T) {
	shared := crc.New()
	first, second := frame.New(shared), frame.New(shared)
	if shared.Made() != 0 {
		t.Error("New computed the table")
	}
	b, _ := first.Put(frame.Frame{Kind: 1})
	if shared.Made() != 1 {
		t.Error("Put does not use the table")
	}
	if _, e := second.Get(b); e != api.OK || shared.Made() != 1 {
		t.Error("Get", int(e), shared.Made())
	}
	fresh := crc.New()
	if _, e := frame.New(fresh).Get(b); e != api.OK || fresh.Made() != 1 {
		t.Error("Get does not use the table", int(e), fresh.Made())
	}
	own, e := frame.New(nil).Put(frame.Frame{Kind: 1})
	if !bytes.Equal(own, b) || e != api.OK {
		t.Errorf("by a table of its own: % x, error %d", own, int(e))
	}
}

// P3.1: the bytes of a frame.
func TestPut(t *testing.T) {
	cases := []struct {
		kind byte
		body string
		want string // ahead of the checksum
	}{
		{7, "", "\x07\x00\x00"},
		{1, "", "\x01\x00\x00"},
		{255, "a", "\xff\x00\x01a"},
		{7, "ab\x00\xff", "\x07\x00\x04ab\x00\xff"},
		{9, letters(255), "\x09\x00\xff" + letters(255)},
		{9, letters(256), "\x09\x01\x00" + letters(256)},
		{9, letters(258), "\x09\x01\x02" + letters(258)},
		{2, letters(api.MaxBody - 1), "\x02\x3f\xff" + letters(api.MaxBody-1)},
		{2, letters(api.MaxBody), "\x02\x40\x00" + letters(api.MaxBody)},
	}
	for _, c := range cases {
		b, e := frame.New(nil).Put(frame.Frame{Kind: c.kind, Body: []byte(c.body)})
		if e != api.OK || string(b) != sealed(c.want) {
			t.Errorf("kind %d, body of %d: error %d, % .20x", c.kind, len(c.body), int(e), b)
		}
	}
	b, e := frame.New(nil).Put(frame.Frame{Kind: 7})
	if e != api.OK || string(b) != "\x07\x00\x00\x97\xcf\x0e\xfa" {
		t.Errorf("kind 7, no body: error %d, % x", int(e), b)
	}
}

// P3.1: the errors of Put, in their order; with one of them the table is not computed, and nothing is counted.
func TestPutErrors(t *testing.T) {
	cases := []struct {
		name string
		f    frame.Frame
		want api.Errno
	}{
		{"kind 0", frame.Frame{}, api.ErrForm},
		{"kind 0 with a body", frame.Frame{Body: []byte("a")}, api.ErrForm},
		{"form ahead of long", frame.Frame{Body: []byte(letters(api.MaxBody + 1))}, api.ErrForm},
		{"one too many", frame.Frame{Kind: 1, Body: []byte(letters(api.MaxBody + 1))}, api.ErrLong},
		{"the longest length", frame.Frame{Kind: 1, Body: []byte(letters(65535))}, api.ErrLong},
		{"no length for it", frame.Frame{Kind: 1, Body: []byte(letters(65536))}, api.ErrLong},
		{"far beyond", frame.Frame{Kind: 1, Body: []byte(letters(65536 + 5))}, api.ErrLong},
	}
	for _, c := range cases {
		s := crc.New()
		codec := frame.New(s)
		b, e := codec.Put(c.f)
		if len(b) != 0 || e != c.want {
			t.Errorf("%s: %d bytes, error %d; want error %d", c.name, len(b), int(e), int(c.want))
		}
		if s.Made() != 0 {
			t.Errorf("%s: the table was computed", c.name)
		}
		wantCounts(t, c.name, codec, 0, 0)
	}
}

// P3.1, rule 5: what is put is neither changed nor kept.
func TestPutSharesNothing(t *testing.T) {
	room := []byte("abcdefgh")
	codec := frame.New(nil)
	first, _ := codec.Put(frame.Frame{Kind: 3, Body: room[:2]})
	second, _ := codec.Put(frame.Frame{Kind: 3, Body: room[:2]})
	if string(room) != "abcdefgh" {
		t.Errorf("the argument was changed: %q", room)
	}
	room[0] = 'X'
	first[4] = 'Y'
	if string(second) != sealed("\x03\x00\x02ab") {
		t.Errorf("memory is shared: %q", second)
	}
}

// P3.1: sizes, of frames with errors, too.
func TestSize(t *testing.T) {
	for _, n := range []int{0, 1, 255, 256, api.MaxBody, api.MaxBody + 1, 65535, 65536, 100000} {
		for _, kind := range []byte{0, 1, 255} {
			if got := frame.Size(frame.Frame{Kind: kind, Body: make([]byte, n)}); got != n+7 {
				t.Errorf("kind %d, body of %d: %d", kind, n, got)
			}
		}
	}
	if got := frame.Size(frame.Frame{}); got != 7 {
		t.Error("of a zero frame:", got)
	}
	r := rand.New(rand.NewSource(1))
	for round := 0; round < 100; round++ {
		f := someFrame(r)
		if b := bytesOf(t, f); len(b) != frame.Size(f) {
			t.Fatalf("%v: %d bytes, size %d", f, len(b), frame.Size(f))
		}
	}
}

// P3.1: which frames are the same.
func TestSame(t *testing.T) {
	of := func(kind byte, body string) frame.Frame { return frame.Frame{Kind: kind, Body: []byte(body)} }
	cases := []struct {
		a, b frame.Frame
		want bool
	}{
		{of(1, "ab"), of(1, "ab"), true},
		{of(1, "ab"), of(2, "ab"), false},
		{of(1, "ab"), of(1, "ac"), false},
		{of(1, "ab"), of(1, "a"), false},
		{of(1, "ab"), of(1, ""), false},
		{of(1, ""), frame.Frame{Kind: 1}, true},
		{of(1, ""), of(2, ""), false},
		{frame.Frame{}, frame.Frame{}, true},
		{frame.Frame{}, of(0, ""), true},
		{of(0, "a"), of(0, "a"), true},
		{of(1, letters(70000)), of(1, letters(70000)), true},
		{of(1, letters(70000)), of(1, letters(69999)+"y"), false},
	}
	for i, c := range cases {
		if frame.Same(c.a, c.b) != c.want || frame.Same(c.b, c.a) != c.want {
			t.Errorf("case %d: want %v", i, c.want)
		}
	}
}

// cuts are bytes, and what Cut returns for them. The frame at the beginning, if there is one, is the one that is named.
var cuts = []struct {
	name string
	in   string
	kind byte
	body string
	n    int
	err  api.Errno
}{
	{name: "nothing", in: "", err: api.ErrShort},
	{name: "a kind alone", in: "\x01", err: api.ErrShort},
	{name: "half a length", in: "\x01\x00", err: api.ErrShort},
	{name: "short ahead of form", in: "\x00\x00", err: api.ErrShort},
	{name: "kind 0", in: "\x00\x00\x00", err: api.ErrForm},
	{name: "kind 0, sealed", in: sealed("\x00\x00\x00"), err: api.ErrForm},
	{name: "form ahead of long", in: "\x00\xff\xff", err: api.ErrForm},
	{name: "form ahead of short", in: "\x00\x00\x01", err: api.ErrForm},
	{name: "too long, ahead of short", in: "\x01\x40\x01", err: api.ErrLong},
	{name: "the longest length", in: "\x01\xff\xff", err: api.ErrLong},
	{name: "too long, whole", in: sealed("\x01\x40\x01" + letters(api.MaxBody+1)), err: api.ErrLong},
	{name: "as long as may be, but short", in: "\x01\x40\x00", err: api.ErrShort},
	{name: "no checksum", in: "\x01\x00\x00", err: api.ErrShort},
	{name: "a checksum that is short", in: sealed("\x01\x00\x00")[:6], err: api.ErrShort},
	{name: "a body that is short", in: "\x01\x00\x02ab\x00\x00\x00", err: api.ErrShort},
	{name: "short ahead of sum", in: "\x01\x00\x01\x00\x00\x00\x00", err: api.ErrShort},
	{name: "wrong checksum", in: "\x01\x00\x00\x00\x00\x00\x00", err: api.ErrSum},
	{name: "checksum from its other end", in: "\x07\x00\x00\xfa\x0e\xcf\x97", err: api.ErrSum},
	{name: "wrong checksum, then more", in: "\x01\x00\x01a\x00\x00\x00\x00more", err: api.ErrSum},
	{name: "checksum of the body alone", in: "\x07\x00\x09123456789\x26\x39\xf4\xcb", err: api.ErrSum},
	{name: "no body", in: sealed("\x07\x00\x00"), kind: 7, n: 7},
	{name: "a body", in: sealed("\xff\x00\x02ab"), kind: 255, body: "ab", n: 9},
	{name: "a body of 258", in: sealed("\x01\x01\x02" + letters(258)), kind: 1, body: letters(258), n: 265},
	{name: "the longest body", in: sealed("\x01\x40\x00" + letters(api.MaxBody)), kind: 1, body: letters(api.MaxBody), n: api.MaxBody + 7},
	{name: "then another one", in: sealed("\x07\x00\x01a") + sealed("\x08\x00\x00"), kind: 7, body: "a", n: 8},
	{name: "then zeros", in: sealed("\x07\x00\x00") + "\x00\x00\x00\x00", kind: 7, n: 7},
}

// P3.2: the frame at the beginning; the errors and their order. P3.3: it is counted.
func TestCut(t *testing.T) {
	for _, c := range cuts {
		codec := frame.New(nil)
		f, n, e := codec.Cut([]byte(c.in))
		if f.Kind != c.kind || string(f.Body) != c.body || n != c.n || e != c.err {
			t.Errorf("%s: kind %d, body of %d, %d bytes, error %d", c.name, f.Kind, len(f.Body), n, int(e))
		}
		if c.err == api.OK {
			wantCounts(t, c.name, codec, 1, 0)
		} else {
			wantCounts(t, c.name, codec, 0, 1)
		}
	}
}

// P3.2: Get has the errors of Cut, and asks for the end after them. P3.3: it is counted.
func TestGet(t *testing.T) {
	for _, c := range cuts {
		kind, body, want := c.kind, c.body, c.err
		if want == api.OK && c.n < len(c.in) {
			kind, body, want = 0, "", api.ErrForm
		}
		codec := frame.New(nil)
		f, e := codec.Get([]byte(c.in))
		if f.Kind != kind || string(f.Body) != body || e != want {
			t.Errorf("%s: kind %d, body of %d, error %d; want error %d", c.name, f.Kind, len(f.Body), int(e), int(want))
		}
		if want == api.OK {
			wantCounts(t, c.name, codec, 1, 0)
		} else {
			wantCounts(t, c.name, codec, 0, 1)
		}
	}
}

// P3.2, rule 4: an error that is found ahead of the checksum leaves the table as it is.
func TestErrorsAheadOfTheSum(t *testing.T) {
	for _, c := range cuts {
		if c.err == api.OK || c.err == api.ErrSum {
			continue
		}
		s := crc.New()
		codec := frame.New(s)
		codec.Cut([]byte(c.in))
		codec.Get([]byte(c.in))
		codec.All([]byte(c.in))
		if s.Made() != 0 {
			t.Errorf("%s: the table was computed", c.name)
		}
	}
}

// P3.2: frame by frame, up to the first error. P3.3: each frame counts as one, an error once per call.
func TestAll(t *testing.T) {
	one, two, three := sealed("\x01\x00\x00"), sealed("\x02\x00\x02ab"), sealed("\x03\x00\x01c")
	cases := []struct {
		name  string
		in    string
		kinds string // of the frames that are returned
		n     int
		err   api.Errno
	}{
		{"nothing", "", "", 0, api.OK},
		{"one", one, "\x01", 7, api.OK},
		{"three", one + two + three, "\x01\x02\x03", 24, api.OK},
		{"the same ones", two + two, "\x02\x02", 18, api.OK},
		{"an error at once", "\x01", "", 0, api.ErrShort},
		{"kind 0 at once", "\x00" + one, "", 0, api.ErrForm},
		{"a byte remains", one + "\x05", "\x01", 7, api.ErrShort},
		{"zeros remain", one + two + "\x00\x00\x00", "\x01\x02", 16, api.ErrForm},
		{"a long one", one + "\x01\x40\x01" + three, "\x01", 7, api.ErrLong},
		{"a wrong one between", one + two[:8] + "\x00" + three, "\x01", 7, api.ErrSum},
		{"the last one short", one + two + three[:7], "\x01\x02", 16, api.ErrShort},
		{"two errors", one + "\x00\x00\x00" + two[:3], "\x01", 7, api.ErrForm},
	}
	bodies := map[byte]string{1: "", 2: "ab", 3: "c"}
	for _, c := range cases {
		codec := frame.New(nil)
		l, n, e := codec.All([]byte(c.in))
		kinds := ""
		for _, f := range l {
			kinds += string(rune(f.Kind))
			if string(f.Body) != bodies[f.Kind] {
				t.Errorf("%s: kind %d has %q", c.name, f.Kind, f.Body)
			}
		}
		if kinds != c.kinds || n != c.n || e != c.err {
			t.Errorf("%s: kinds %q, %d bytes, error %d", c.name, kinds, n, int(e))
		}
		bad := uint64(0)
		if c.err != api.OK {
			bad = 1
		}
		wantCounts(t, c.name, codec, uint64(len(c.kinds)), bad)
	}
}

// P3.2: All agrees with Cut, called again and again.
func TestAllIsCutByCut(t *testing.T) {
	r := rand.New(rand.NewSource(2))
	for round := 0; round < 300; round++ {
		var b []byte
		for range r.Intn(6) {
			b = append(b, bytesOf(t, someFrame(r))...)
		}
		if r.Intn(2) == 0 {
			b = append(b, someBytes(r, 9)...)
		}
		if len(b) > 0 && r.Intn(2) == 0 {
			b = crc.Turn(b, r.Intn(8*len(b)), r.Uint32())
		}
		byAll, byCut := frame.New(nil), frame.New(nil)
		l, n, e := byAll.All(b)
		at, want := 0, api.OK
		for i := 0; at < len(b); i++ {
			var f frame.Frame
			var size int
			if f, size, want = byCut.Cut(b[at:]); want != api.OK {
				break
			}
			if i >= len(l) || !frame.Same(l[i], f) {
				t.Fatalf("% x: frame %d is another one", b, i)
			}
			at += size
		}
		if n != at || e != want {
			t.Fatalf("% x: %d bytes, error %d; want %d, error %d", b, n, int(e), at, int(want))
		}
		good, bad := byCut.Counts()
		wantCounts(t, "All, as Cut", byAll, good, bad)
		if uint64(len(l)) != good {
			t.Fatalf("% x: %d frames, want %d", b, len(l), good)
		}
	}
}

// P3.2, rule 5: bodies are new memory; what is read is not changed.
func TestReadingSharesNothing(t *testing.T) {
	const in = "\x03\x00\x02ab"
	b := []byte(sealed(in) + sealed(in))
	was := string(b)
	codec := frame.New(nil)
	first, n, _ := codec.Cut(b)
	second, _ := codec.Get(b[:n])
	l, _, _ := codec.All(b)
	if len(l) != 2 || n != 9 {
		t.Fatal("frames", len(l), n)
	}
	bodies := [][]byte{first.Body, second.Body, l[0].Body, l[1].Body}
	for i, body := range bodies {
		_ = append(body, "ZZZZ"...)
		copy(body, "XY")
		for k, other := range bodies[i+1:] {
			if string(other) != "ab" {
				t.Errorf("bodies %d and %d share memory", i, i+1+k)
			}
		}
	}
	if string(b) != was {
		t.Error("what is read was changed")
	}
	third, _, _ := codec.Cut(b)
	copy(b, make([]byte, len(b)))
	if string(third.Body) != "ab" {
		t.Error("what is read was kept")
	}
}

// P3.3: counts add up over calls; Put counts for nothing.
func TestCounts(t *testing.T) {
	codec := frame.New(nil)
	wantCounts(t, "new", codec, 0, 0)
	b, _ := codec.Put(frame.Frame{Kind: 1, Body: []byte("a")})
	codec.Put(frame.Frame{})
	wantCounts(t, "put", codec, 0, 0)
	three := append(append(append([]byte(nil), b...), b...), b...)
	codec.All(three)
	wantCounts(t, "all", codec, 3, 0)
	codec.All(three[:len(three)-1])
	wantCounts(t, "all but the last", codec, 5, 1)
	codec.All(nil)
	wantCounts(t, "none", codec, 5, 1)
	codec.Get(three)
	wantCounts(t, "got too much", codec, 5, 2)
	codec.Get(b)
	wantCounts(t, "got", codec, 6, 2)
	codec.Cut(three)
	wantCounts(t, "cut", codec, 7, 2)
	codec.Cut(nil)
	wantCounts(t, "cut of nothing", codec, 7, 3)
	frame.Same(frame.Frame{}, frame.Frame{})
	frame.Size(frame.Frame{})
	codec.Counts()
	wantCounts(t, "asked", codec, 7, 3)
	wantCounts(t, "another one", frame.New(nil), 0, 0)
}

// P3.3, 'Ways': the numbers are atomic ones: none is lost, however many read by one codec.
func TestCountsOfMany(t *testing.T) {
	codec := frame.New(nil)
	good := bytesOf(t, frame.Frame{Kind: 1, Body: []byte("a")})
	var all sync.WaitGroup
	for range 16 {
		all.Add(1)
		go func() {
			defer all.Done()
			for range 200 {
				codec.Get(good)
				codec.Cut(good[1:])
				codec.All(append(append([]byte(nil), good...), good...))
			}
		}()
	}
	all.Wait()
	wantCounts(t, "many", codec, 16*200*3, 16*200)
}

// P3.4: what is put is got, by each way to read it.
func TestPutIsGot(t *testing.T) {
	r := rand.New(rand.NewSource(3))
	codec := frame.New(nil)
	for round := 0; round < 300; round++ {
		f := someFrame(r)
		b := bytesOf(t, f)
		got, e := codec.Get(b)
		if e != api.OK || !frame.Same(got, f) {
			t.Fatalf("%v: got %v, error %d", f, got, int(e))
		}
		cut, n, e := codec.Cut(append(append([]byte(nil), b...), someBytes(r, 9)...))
		if e != api.OK || n != len(b) || !frame.Same(cut, f) {
			t.Fatalf("%v: cut %v, %d bytes, error %d", f, cut, n, int(e))
		}
		l, n, e := codec.All(b)
		if e != api.OK || n != len(b) || len(l) != 1 || !frame.Same(l[0], f) {
			t.Fatalf("%v: all %v, %d bytes, error %d", f, l, n, int(e))
		}
	}
}

// P3.4: each proper prefix is too short.
func TestPrefixesAreShort(t *testing.T) {
	r := rand.New(rand.NewSource(4))
	codec := frame.New(nil)
	for round := 0; round < 50; round++ {
		b := bytesOf(t, someFrame(r))
		for n := range b {
			if f, e := codec.Get(b[:n]); e != api.ErrShort || f.Kind != 0 || len(f.Body) != 0 {
				t.Fatalf("% x, %d bytes: error %d", b, n, int(e))
			}
			if _, _, e := codec.Cut(b[:n]); e != api.ErrShort {
				t.Fatalf("% x, %d bytes cut: error %d", b, n, int(e))
			}
		}
	}
}

// P3.4: after flipping bits within 32 consecutive ones it is rejected, unless nothing was flipped.
func TestTurnedIsRejected(t *testing.T) {
	r := rand.New(rand.NewSource(5))
	codec := frame.New(nil)
	for round := 0; round < 60; round++ {
		f := someFrame(r)
		b := bytesOf(t, f)
		for bit := range 8 * len(b) {
			for _, pattern := range []uint32{0, 1, 3, 0x80000001, 0xFFFFFFFF, 0xEDB88320, r.Uint32(), r.Uint32()} {
				turned := crc.Turn(b, bit, pattern)
				got, e := codec.Get(turned)
				if bytes.Equal(turned, b) {
					if e != api.OK || !frame.Same(got, f) {
						t.Fatalf("% x, not turned: error %d", b, int(e))
					}
				} else if e == api.OK || got.Kind != 0 || len(got.Body) != 0 {
					t.Fatalf("% x turned at %d by %X: got %v, error %d", b, bit, pattern, got, int(e))
				}
			}
		}
	}
}

// P1: of a nil codec nothing comes but ErrNil.
func TestNil(t *testing.T) {
	var codec *frame.Codec
	for _, f := range []frame.Frame{{}, {Kind: 1}, {Kind: 1, Body: make([]byte, 70000)}} {
		if b, e := codec.Put(f); len(b) != 0 || e != api.ErrNil {
			t.Error("Put", b, int(e))
		}
	}
	for _, c := range cuts {
		if f, n, e := codec.Cut([]byte(c.in)); f.Kind != 0 || len(f.Body) != 0 || n != 0 || e != api.ErrNil {
			t.Error("Cut", c.name, f, n, int(e))
		}
		if f, e := codec.Get([]byte(c.in)); f.Kind != 0 || len(f.Body) != 0 || e != api.ErrNil {
			t.Error("Get", c.name, f, int(e))
		}
		if l, n, e := codec.All([]byte(c.in)); len(l) != 0 || n != 0 || e != api.ErrNil {
			t.Error("All", c.name, l, n, int(e))
		}
	}
	wantCounts(t, "nil", codec, 0, 0)
}

// P1: for any bytes the calls end, and beside an error there is no frame.
func TestAnyBytes(t *testing.T) {
	r := rand.New(rand.NewSource(6))
	codec := frame.New(nil)
	for round := 0; round < 20000; round++ {
		b := someBytes(r, 24)
		if len(b) > 2 && r.Intn(2) == 0 {
			b[1], b[2] = 0, byte(r.Intn(20))
		}
		if f, n, e := codec.Cut(b); e != api.OK && (f.Kind != 0 || len(f.Body) != 0 || n != 0) {
			t.Fatalf("% x: %v beside an error", b, f)
		}
		codec.Get(b)
		if l, n, e := codec.All(b); e == api.OK && n != len(b) || n > len(b) || len(l)*7 > n {
			t.Fatalf("% x: all %v, %d bytes, error %d", b, l, n, int(e))
		}
	}
}
