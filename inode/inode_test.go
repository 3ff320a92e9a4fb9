package inode_test

import (
	"bytes"
	"math"
	"math/rand"
	"slices"
	"testing"

	"catenary/api"
	"catenary/inode"
)

const (
	maxSize   = 512 // bytes of a file
	maxBlocks = 8   // blocks of a file
	last      = 4095
)

// noModes are numbers that are no mode; some of them are one's, if cut to fewer bits.
var noModes = []int{-1, -2, 3, 4, 255, 256, 257, 1 << 32, 1<<32 + 1, math.MinInt, math.MinInt + 1, math.MaxInt}

// made returns an inode of a size and pairs of numbers: of each extent its Start and its Len.
func made(mode, size int, pairs ...int) inode.Inode {
	x := inode.Inode{Mode: mode, Size: size}
	for at := 0; at < len(pairs); at += 2 {
		x.Ext = append(x.Ext, inode.Extent{Start: pairs[at], Len: pairs[at+1]})
	}
	return x
}

// equal reports whether both have the same fields.
func equal(x, y inode.Inode) bool {
	return x.Mode == y.Mode && x.Size == y.Size && slices.Equal(x.Ext, y.Ext)
}

func isZero(x inode.Inode) bool {
	return equal(x, inode.Inode{})
}

// needs counts the blocks of a size, one by one.
func needs(size int) int {
	n := 0
	for ; size > 0; size -= 64 {
		n++
	}
	return n
}

// isRight says in the document's words, extent by extent, whether an inode is valid.
func isRight(x inode.Inode) bool {
	if x.Mode == 0 {
		return x.Size == 0 && len(x.Ext) == 0
	}
	if x.Mode != 1 && x.Mode != 2 || x.Size < 0 || x.Size > maxSize {
		return false
	}
	seen := map[int]bool{}
	n, end := 0, -1
	for _, e := range x.Ext {
		if e.Start < 0 || e.Start > last || e.Len < 1 || e.Len > maxBlocks || e.Start == end {
			return false
		}
		end = e.Start + e.Len
		for b := e.Start; b < end; b++ {
			if b > last || seen[b] {
				return false
			}
			seen[b] = true
			n++
		}
	}
	return n == needs(x.Size)
}

// right are inodes at the edges of what is valid.
func right() []inode.Inode {
	return []inode.Inode{
		{},
		made(1, 0), made(2, 0),
		made(1, 1, 0, 1), made(2, 64, 0, 1), made(1, 63, last, 1), made(1, 64, 4094, 1),
		made(1, 65, 7, 2), made(1, 100, 7, 2), made(2, 128, 4094, 2),
		made(1, 512, 0, 8), made(2, 449, 4088, 8), made(2, 512, 1, 8), made(1, 448, 4089, 7),
		made(1, 128, 8, 1, 7, 1), // an extent may end where the previous one begins
		made(1, 192, 9, 1, 7, 2),
		made(2, 192, 7, 1, 9, 1, 8, 1), // or begin where another one ends than the previous one
		made(1, 128, 7, 1, 9, 1),
		made(1, 128, last, 1, 0, 1),
		made(1, 512, 4088, 4, 0, 4), made(1, 512, 0, 4, 5, 4), made(1, 512, 5, 4, 0, 4),
		made(2, 512, 0, 1, 2, 1, 4, 1, 6, 1, 8, 1, 10, 1, 12, 1, 14, 1),
		made(1, 450, 14, 1, 12, 1, 10, 1, 8, 1, 6, 1, 4, 1, 2, 1, 0, 1),
		made(2, 512, 30, 3, 20, 2, 300, 1, 4000, 2),
	}
}

// wrong are inodes with a Mode and a Size that exist, but which are not valid.
func wrong() []inode.Inode {
	l := []inode.Inode{
		made(0, 1), made(0, 64, 7, 1), made(0, 512), made(0, 512, 0, 8), made(0, 0, 7, 1), made(0, 0, 0, 0), made(0, 0, 7, 9), made(0, -1), made(0, -64, 7, 1), made(0, math.MinInt),
	}
	for _, mode := range []int{1, 2} {
		l = append(l,
			made(mode, -1), made(mode, -1, 7, 1), made(mode, -64), made(mode, math.MinInt), made(mode, math.MinInt, 7, 1),
			made(mode, 0, 7, 1), made(mode, 1), made(mode, 64), made(mode, 512), // too many blocks, or too few
			made(mode, 64, 7, 2), made(mode, 65, 7, 1), made(mode, 65, 7, 3), made(mode, 512, 0, 7), made(mode, 448, 0, 8), made(mode, 512, 0, 8, 9, 1), made(mode, 512, 0, 8, 20, 8),
			made(mode, 64, -1, 1), made(mode, 128, -1, 2), made(mode, 64, 4096, 1), made(mode, 64, 65536, 1), made(mode, 64, 1<<32, 1), made(mode, 64, math.MaxInt, 1), made(mode, 64, math.MinInt, 1),
			made(mode, 128, last, 2), made(mode, 512, 4089, 8), made(mode, 512, 4094, 8), made(mode, 128, math.MaxInt, 2), made(mode, 128, 7, 1, 4096, 1), made(mode, 128, 7, 1, -1, 1),
			made(mode, 0, 7, 0), made(mode, 0, 7, -1), made(mode, 0, 7, 9), made(mode, 0, 7, math.MaxInt), made(mode, 0, 7, math.MinInt), made(mode, 0, -1, 0), made(mode, 0, math.MinInt, math.MinInt),
			made(mode, 64, 7, 0), made(mode, 64, 7, 1, 9, 0), made(mode, 64, 9, 0, 7, 1), made(mode, 64, 7, 1, 8, 0), made(mode, 128, 7, 2, 20, 9), made(mode, 128, 7, 1, 9, -1, 9, 1), made(mode, 64, 7, 65), made(mode, 64, 7, 257),
			made(mode, 512, 0, 9), made(mode, 512, 0, 16), made(mode, 64, 7, 1, 7, 9),
			made(mode, 128, 7, 1, 7, 1), made(mode, 192, 7, 2, 7, 1), made(mode, 192, 7, 2, 8, 1), made(mode, 192, 7, 1, 9, 1, 7, 1), made(mode, 256, 7, 2, 6, 2), made(mode, 512, 7, 4, 5, 4), // the same block twice
			made(mode, 128, 7, 1, 8, 1), made(mode, 192, 7, 2, 9, 1), made(mode, 192, 7, 1, 8, 2), made(mode, 192, 1, 1, 7, 1, 8, 1), made(mode, 512, 0, 4, 4, 4), // an extent where the previous one ends
		)
	}
	many := make([]inode.Extent, 1000)
	for at := range many {
		many[at] = inode.Extent{Start: 2 * at, Len: 1}
	}
	none := make([]inode.Extent, 9)
	return append(l, inode.Inode{Mode: 1, Size: 512, Ext: many}, inode.Inode{Mode: 2, Size: 512, Ext: many[:9]}, inode.Inode{Mode: 1, Ext: none}, inode.Inode{Ext: many})
}

// random returns a valid inode that is not free.
func random(r *rand.Rand) inode.Inode {
	x := inode.Inode{Mode: 1 + r.Intn(2), Size: r.Intn(maxSize + 1)}
	from, most := r.Intn(last+1), 1+r.Intn(40)
	for left := needs(x.Size); left > 0; {
		e := inode.Extent{Start: (from + r.Intn(most)) % (last + 1), Len: 1 + r.Intn(left)}
		next := inode.Inode{Mode: 1, Size: 64 * (needs(x.Size) - left + e.Len), Ext: append(slices.Clone(x.Ext), e)}
		if !isRight(next) {
			most++
			continue
		}
		x.Ext, left = next.Ext, left-e.Len
	}
	return x
}

// blocksOf returns the blocks of the extents of a valid inode.
func blocksOf(x inode.Inode) []int {
	var l []int
	for _, e := range x.Ext {
		for b := e.Start; b < e.Start+e.Len; b++ {
			l = append(l, b)
		}
	}
	return l
}

// P28.1: the modes are consecutive numbers.
func TestModes(t *testing.T) {
	if inode.Free != 0 || inode.File != 1 || inode.Dir != 2 {
		t.Error(inode.Free, inode.File, inode.Dir)
	}
}

// P28.1: what is valid.
func TestCheck(t *testing.T) {
	for _, x := range right() {
		if e := inode.Check(x); e != api.OK || !isRight(x) {
			t.Error(x, "is", int(e))
		}
	}
	if e := inode.Check(inode.Inode{Mode: 1, Ext: []inode.Extent{}}); e != api.OK {
		t.Error("without extents", int(e))
	}
	r := rand.New(rand.NewSource(281))
	for range 3000 {
		if x := random(r); inode.Check(x) != api.OK {
			t.Error(x, "is", int(inode.Check(x)))
		}
	}
}

// P28.1: ErrArg of no mode, then ErrBig of a Size that is too big, then ErrForm of all else.
func TestCheckErrors(t *testing.T) {
	check := func(x inode.Inode, want api.Errno) {
		t.Helper()
		if e := inode.Check(x); e != want {
			t.Error(x, "is", int(e), "want", int(want))
		}
	}
	for _, x := range wrong() {
		check(x, api.ErrForm)
	}
	for _, x := range append(right(), wrong()...) {
		for _, size := range []int{maxSize + 1, maxSize + 64, 1 << 32, 1<<32 + 64, math.MaxInt} {
			x.Size = size
			check(x, api.ErrBig)
		}
	}
	for _, x := range append(right(), wrong()...) {
		for _, mode := range noModes {
			x.Mode = mode
			check(x, api.ErrArg)
			big := x
			big.Size = maxSize + 1
			check(big, api.ErrArg)
		}
	}
}

// P28.1: whatever the fields are, held against the document's words.
func TestCheckRandom(t *testing.T) {
	r := rand.New(rand.NewSource(282))
	good := 0
	for range 60000 {
		x := inode.Inode{Mode: 1 + r.Intn(2)}
		blocks := 0
		for range r.Intn(4) {
			e := inode.Extent{Start: r.Intn(8), Len: 1 + r.Intn(3)}
			if r.Intn(3) == 0 {
				e.Start += 4088
			}
			if r.Intn(20) == 0 {
				e.Len = r.Intn(12) - 2
			}
			blocks += e.Len
			x.Ext = append(x.Ext, e)
		}
		x.Size = 64*blocks - r.Intn(66)
		want := api.OK
		if x.Size > maxSize {
			want = api.ErrBig
		} else if !isRight(x) {
			want = api.ErrForm
		} else {
			good++
		}
		if e := inode.Check(x); e != want {
			t.Fatal(x, "is", int(e), "want", int(want))
		}
	}
	if good < 5000 {
		t.Error("only", good, "were valid")
	}
}

// P28.1: the bytes of inodes; the chapter's example ahead.
func TestPut(t *testing.T) {
	for _, c := range []struct {
		x    inode.Inode
		want []byte
	}{
		{made(1, 100, 7, 2), []byte{1, 1, 0, 0, 0, 100, 0, 7, 0, 2}},
		{made(2, 0), []byte{2, 0, 0, 0, 0, 0}},
		{made(1, 0), []byte{1, 0, 0, 0, 0, 0}},
		{inode.Inode{}, []byte{0, 0, 0, 0, 0, 0}},
		{made(2, 512, 4088, 8), []byte{2, 1, 0, 0, 2, 0, 15, 248, 0, 8}},
		{made(1, 258, 300, 2, 20, 1, 4094, 2), []byte{1, 3, 0, 0, 1, 2, 1, 44, 0, 2, 0, 20, 0, 1, 15, 254, 0, 2}},
		{made(2, 512, 14, 1, 12, 1, 10, 1, 8, 1, 6, 1, 4, 1, 2, 1, 0, 1), []byte{2, 8, 0, 0, 2, 0, 0, 14, 0, 1, 0, 12, 0, 1, 0, 10, 0, 1, 0, 8, 0, 1, 0, 6, 0, 1, 0, 4, 0, 1, 0, 2, 0, 1, 0, 0, 0, 1}},
	} {
		b, e := inode.Put(c.x)
		if e != api.OK || !bytes.Equal(b, c.want) {
			t.Error(c.x, "is", b, int(e), "want", c.want)
		}
	}
}

// P28.1: nothing that is not valid is put; the error is that of Check.
func TestPutErrors(t *testing.T) {
	check := func(x inode.Inode, want api.Errno) {
		t.Helper()
		if b, e := inode.Put(x); len(b) != 0 || e != want {
			t.Error(x, "is", b, int(e), "want", int(want))
		}
	}
	for _, x := range wrong() {
		check(x, api.ErrForm)
		x.Size = maxSize + 1
		check(x, api.ErrBig)
		x.Mode = 3
		check(x, api.ErrArg)
		x.Size = 0
		x.Mode = -1
		check(x, api.ErrArg)
	}
}

// P28.1, P28.4: what is put is got.
func TestPutAndGet(t *testing.T) {
	l := right()
	r := rand.New(rand.NewSource(283))
	for range 3000 {
		l = append(l, random(r))
	}
	for _, x := range l {
		b, e := inode.Put(x)
		if e != api.OK || len(b) != 6+4*len(x.Ext) {
			t.Fatal(x, "is", b, int(e))
		}
		if y, e := inode.Get(b); e != api.OK || !equal(x, y) {
			t.Fatal(x, "is got as", y, int(e))
		}
	}
}

func mustGet(t *testing.T, want inode.Inode, b ...byte) {
	t.Helper()
	if x, e := inode.Get(b); e != api.OK || !equal(x, want) {
		t.Error(b, "is", x, int(e), "want", want)
	}
}

func mustNotGet(t *testing.T, want api.Errno, b ...byte) {
	t.Helper()
	if x, e := inode.Get(b); e != want || !isZero(x) {
		t.Error(b, "is", x, int(e), "want", int(want))
	}
}

// P28.1: no bytes are the free inode, as are those that say so.
func TestGet(t *testing.T) {
	mustGet(t, inode.Inode{})
	mustGet(t, inode.Inode{}, []byte{}...)
	mustGet(t, inode.Inode{}, 0, 0, 0, 0, 0, 0)
	mustGet(t, made(1, 100, 7, 2), 1, 1, 0, 0, 0, 100, 0, 7, 0, 2)
	mustGet(t, made(2, 0), 2, 0, 0, 0, 0, 0)
	mustGet(t, made(2, 512, 4088, 8), 2, 1, 0, 0, 2, 0, 15, 248, 0, 8)
	mustGet(t, made(1, 130, 8, 1, 7, 1, 4095, 1), 1, 3, 0, 0, 0, 130, 0, 8, 0, 1, 0, 7, 0, 1, 15, 255, 0, 1)
}

// P28.1: ErrShort of each part that is missing, unless one ahead of it is wrong.
func TestGetShort(t *testing.T) {
	for _, x := range right() {
		b, _ := inode.Put(x)
		for end := 1; end < len(b); end++ {
			mustNotGet(t, api.ErrShort, b[:end]...)
		}
	}
	long := []byte{1, 8, 255, 255, 255, 255} // parts that will not be valid, but are read
	for range 8 {
		for range 4 {
			mustNotGet(t, api.ErrShort, long...)
			long = append(long, 255)
		}
	}
	mustNotGet(t, api.ErrForm, long...)
	mustNotGet(t, api.ErrShort, 0, 1, 0, 0, 0, 0)
	mustNotGet(t, api.ErrShort, 2, 2, 0, 0, 0, 9, 0, 1, 0, 1)
}

// P28.1: ErrForm of a Mode above 2, or too many extents, ahead of what is missing behind them.
func TestGetForm(t *testing.T) {
	tail := []byte{0, 0, 0, 100, 0, 7, 0, 2}
	for mode := 3; mode < 256; mode++ {
		mustNotGet(t, api.ErrForm, byte(mode))
		mustNotGet(t, api.ErrForm, byte(mode), 9)
		mustNotGet(t, api.ErrForm, append([]byte{byte(mode), 1}, tail...)...)
	}
	for count := 9; count < 256; count++ {
		for _, mode := range []byte{0, 1, 2} {
			mustNotGet(t, api.ErrForm, mode, byte(count))
			mustNotGet(t, api.ErrForm, append([]byte{mode, byte(count)}, tail...)...)
			mustNotGet(t, api.ErrForm, append([]byte{mode, byte(count), 0, 0, 2, 0}, make([]byte, 4*count)...)...)
		}
	}
}

// P28.1: ErrForm of bytes that are left.
func TestGetLeft(t *testing.T) {
	for _, x := range right() {
		b, _ := inode.Put(x)
		mustNotGet(t, api.ErrForm, append(slices.Clone(b), 0)...)
		mustNotGet(t, api.ErrForm, append(slices.Clone(b), 0, 9, 0, 1)...)
		mustNotGet(t, api.ErrForm, append(slices.Clone(b), make([]byte, 500)...)...)
	}
	mustNotGet(t, api.ErrForm, append([]byte{1, 0, 0, 0, 0, 64}, 0, 0)...)
}

// P28.1: ErrForm of what is not valid, also where Check says ErrBig.
func TestGetNotValid(t *testing.T) {
	mustNotGet(t, api.ErrForm, 1, 0, 0, 0, 2, 1)
	mustNotGet(t, api.ErrForm, 0, 0, 0, 0, 2, 1)
	mustNotGet(t, api.ErrForm, 2, 1, 255, 255, 255, 255, 0, 7, 0, 1)
	mustNotGet(t, api.ErrForm, 1, 1, 1, 0, 0, 64, 0, 7, 0, 1)
	mustNotGet(t, api.ErrForm, 1, 1, 0, 1, 0, 64, 0, 7, 0, 1)
	raw := func(x inode.Inode) []byte {
		b := []byte{byte(x.Mode), byte(len(x.Ext)), 0, 0, byte(x.Size >> 8), byte(x.Size)}
		for _, e := range x.Ext {
			b = append(b, byte(e.Start>>8), byte(e.Start), byte(e.Len>>8), byte(e.Len))
		}
		return b
	}
	checked := 0
	for _, x := range wrong() {
		if isNarrow(x) {
			mustNotGet(t, api.ErrForm, raw(x)...)
			checked++
		}
	}
	if checked < 50 {
		t.Error("only", checked)
	}
}

// isNarrow reports whether the fields of x have the widths of its bytes.
func isNarrow(x inode.Inode) bool {
	fits := x.Size >= 0 && len(x.Ext) < 256
	for _, e := range x.Ext {
		fits = fits && e.Start>>16 == 0 && e.Len>>16 == 0
	}
	return fits
}

// P28.1, P28.4: what is got from any bytes is valid, and put as the same ones.
func TestGetRandom(t *testing.T) {
	r := rand.New(rand.NewSource(284))
	got := 0
	for range 30000 {
		b, _ := inode.Put(random(r))
		for range r.Intn(3) {
			b[r.Intn(len(b))] = byte(r.Intn(10))
		}
		x, e := inode.Get(b)
		if e != api.OK {
			if !isZero(x) || e != api.ErrForm && e != api.ErrShort {
				t.Fatal(b, "is", x, int(e))
			}
			continue
		}
		got++
		if again, e := inode.Put(x); e != api.OK || !bytes.Equal(b, again) || !isRight(x) {
			t.Fatal(b, "is put as", again, int(e))
		}
	}
	if got < 10000 {
		t.Error("only", got, "were got")
	}
}

// P28.1: equal are those all whose fields are.
func TestSame(t *testing.T) {
	l := append(right(), wrong()...)
	l = append(l, made(3, 0), made(1, 513), made(1, 513, 7, 1), made(1, 513, 7, 2), made(1, 513, 8, 1), made(2, 513, 7, 1), made(1, 514, 7, 1), made(1, 513, 7, 1, 7, 1))
	for at, x := range l {
		for other, y := range l {
			if got := inode.Same(x, y); got != equal(x, y) || at == other && !got {
				t.Error(x, "and", y, "are the same:", got)
			}
		}
		y := x
		y.Ext = slices.Clone(x.Ext)
		if !inode.Same(x, y) {
			t.Error(x, "and its copy")
		}
	}
	if !inode.Same(made(1, 0), inode.Inode{Mode: 1, Ext: []inode.Extent{}}) {
		t.Error("no extents")
	}
}

// P28.2: sizes in blocks, rounded up.
func TestNeed(t *testing.T) {
	for size, want := range map[int]int{
		0: 0, 1: 1, 63: 1, 64: 1, 65: 2, 100: 2, 128: 2, 129: 3, 448: 7, 449: 8, 511: 8, 512: 8, 513: 9, 1 << 20: 1 << 14, 1<<20 + 1: 1<<14 + 1,
		-1: 0, -63: 0, -64: 0, -65: 0, -1000: 0, math.MinInt: 0, math.MinInt + 1: 0,
		math.MaxInt: 1 << 57, math.MaxInt - 62: 1 << 57, math.MaxInt - 63: 1<<57 - 1, math.MaxInt - 64: 1<<57 - 1,
	} {
		if got := inode.Need(size); got != want {
			t.Error(size, "needs", got, "want", want)
		}
	}
	for size := -200; size < 3000; size++ {
		if got := inode.Need(size); got != needs(size) {
			t.Error(size, "needs", got)
		}
	}
}

// P28.2: the blocks of any extents, valid or not; one of a Len that is not from 1 to 8 has none.
func TestBlocks(t *testing.T) {
	for _, c := range []struct {
		x    inode.Inode
		want []int
	}{
		{inode.Inode{}, nil},
		{made(1, 100, 7, 2), []int{7, 8}},
		{made(1, 192, 9, 1, 3, 2), []int{9, 3, 4}},
		{made(2, 512, 4088, 8), []int{4088, 4089, 4090, 4091, 4092, 4093, 4094, 4095}},
		{made(0, 0, 7, 2), []int{7, 8}}, // only the extents count
		{made(-5, -5, 7, 2), []int{7, 8}},
		{made(9, 9999, 7, 1), []int{7}},
		{made(1, 0, 7, 2, 7, 2, 8, 1), []int{7, 8, 7, 8, 8}},
		{made(1, 0, 7, 1, 8, 1), []int{7, 8}},
		{made(1, 0, 7, 0), nil}, {made(1, 0, 7, -1), nil}, {made(1, 0, 7, 9), nil}, {made(1, 0, 7, math.MaxInt), nil}, {made(1, 0, 7, math.MinInt), nil}, {made(1, 0, 7, 1<<32+1), nil},
		{made(1, 0, 1, 9, 7, 2, 1, 0, 3, 1, 1, -2), []int{7, 8, 3}},
		{made(1, 0, -2, 4), []int{-2, -1, 0, 1}},
		{made(1, 0, 5000, 2, 1<<40, 1), []int{5000, 5001, 1 << 40}},
		{made(1, 0, math.MaxInt-1, 4), []int{math.MaxInt - 1, math.MaxInt, math.MinInt, math.MinInt + 1}},
		{made(1, 0, math.MaxInt, 1, math.MinInt, 2), []int{math.MaxInt, math.MinInt, math.MinInt + 1}},
	} {
		if l := inode.Blocks(c.x); !slices.Equal(l, c.want) {
			t.Error(c.x, "has", l, "want", c.want)
		}
	}
	r := rand.New(rand.NewSource(285))
	for range 1000 {
		x := random(r)
		if l := inode.Blocks(x); !slices.Equal(l, blocksOf(x)) {
			t.Error(x, "has", l)
		}
	}
	many := inode.Inode{Ext: make([]inode.Extent, 3000)}
	for at := range many.Ext {
		many.Ext[at] = inode.Extent{Start: at, Len: 8}
	}
	if l := inode.Blocks(many); len(l) != 24000 || l[23999] != 3006 || l[8] != 1 {
		t.Error(len(l))
	}
}

// P28.2: extents as long as possible; the chapter's example ahead.
func TestOf(t *testing.T) {
	for _, c := range []struct {
		mode, size int
		blocks     []int
		want       inode.Inode
	}{
		{1, 100, []int{7, 8}, made(1, 100, 7, 2)},
		{1, 0, nil, made(1, 0)}, {2, 0, []int{}, made(2, 0)},
		{2, 1, []int{0}, made(2, 1, 0, 1)}, {1, 64, []int{4095}, made(1, 64, 4095, 1)},
		{1, 128, []int{8, 7}, made(1, 128, 8, 1, 7, 1)},
		{1, 129, []int{7, 9, 8}, made(1, 129, 7, 1, 9, 1, 8, 1)},
		{2, 192, []int{9, 7, 8}, made(2, 192, 9, 1, 7, 2)},
		{1, 256, []int{1, 2, 4, 5}, made(1, 256, 1, 2, 4, 2)},
		{2, 512, []int{0, 1, 2, 3, 4, 5, 6, 7}, made(2, 512, 0, 8)},
		{1, 449, []int{4088, 4089, 4090, 4091, 4092, 4093, 4094, 4095}, made(1, 449, 4088, 8)},
		{1, 512, []int{4, 5, 6, 7, 0, 1, 2, 3}, made(1, 512, 4, 4, 0, 4)},
		{2, 512, []int{7, 6, 5, 4, 3, 2, 1, 0}, made(2, 512, 7, 1, 6, 1, 5, 1, 4, 1, 3, 1, 2, 1, 1, 1, 0, 1)},
		{1, 128, []int{4095, 0}, made(1, 128, 4095, 1, 0, 1)},
	} {
		was := slices.Clone(c.blocks)
		if x, e := inode.Of(c.mode, c.size, c.blocks); e != api.OK || !equal(x, c.want) {
			t.Error(c.mode, c.size, c.blocks, "is", x, int(e), "want", c.want)
		}
		if !slices.Equal(c.blocks, was) {
			t.Error("the blocks were changed", c.blocks)
		}
	}
	r := rand.New(rand.NewSource(286))
	for range 2000 {
		x := random(r)
		if y, e := inode.Of(x.Mode, x.Size, blocksOf(x)); e != api.OK || !equal(x, y) {
			t.Fatal(x, "is", y, int(e))
		}
	}
}

// P28.2: ErrArg of no mode, or that of the free inode; then ErrBig; then ErrForm.
func TestOfErrors(t *testing.T) {
	check := func(mode, size int, want api.Errno, blocks ...int) {
		t.Helper()
		if x, e := inode.Of(mode, size, blocks); e != want || !isZero(x) {
			t.Error(mode, size, blocks, "is", x, int(e), "want", int(want))
		}
	}
	nine := []int{10, 11, 12, 13, 14, 15, 16, 17, 18}
	for _, mode := range append(noModes, 0) {
		check(mode, 0, api.ErrArg)
		check(mode, 100, api.ErrArg, 7, 8)
		check(mode, -1, api.ErrArg)
		check(mode, 513, api.ErrArg, nine...)
		check(mode, 64, api.ErrArg, -1)
	}
	for _, mode := range []int{1, 2} {
		for _, size := range []int{513, 576, 1 << 32, math.MaxInt} {
			check(mode, size, api.ErrBig, nine...)
			check(mode, size, api.ErrBig)
			check(mode, size, api.ErrBig, 7, 7, -1)
		}
		for _, size := range []int{-1, -64, math.MinInt} {
			check(mode, size, api.ErrForm)
			check(mode, size, api.ErrForm, 7)
		}
		check(mode, 0, api.ErrForm, 7)
		check(mode, 64, api.ErrForm)
		check(mode, 64, api.ErrForm, 7, 8)
		check(mode, 65, api.ErrForm, 7)
		check(mode, 65, api.ErrForm, 7, 8, 9)
		check(mode, 512, api.ErrForm, nine...)
		check(mode, 512, api.ErrForm, nine[:7]...)
		check(mode, 448, api.ErrForm, nine[:8]...)
		for _, block := range []int{-1, 4096, 4097, 65536, 1<<32 + 7, math.MinInt, math.MaxInt} {
			check(mode, 64, api.ErrForm, block)
			check(mode, 128, api.ErrForm, 7, block)
			check(mode, 192, api.ErrForm, block, 7, 9)
		}
		check(mode, 128, api.ErrForm, 4095, 4096)
		check(mode, 128, api.ErrForm, -1, 0)
		check(mode, 128, api.ErrForm, math.MaxInt, math.MinInt)
		check(mode, 128, api.ErrForm, 7, 7)
		check(mode, 192, api.ErrForm, 7, 8, 7)
		check(mode, 192, api.ErrForm, 8, 7, 8)
		check(mode, 256, api.ErrForm, 7, 8, 6, 7)
		many := make([]int, 5000)
		for at := range many {
			many[at] = at
		}
		check(mode, 512, api.ErrForm, many...)
	}
}

// P28.3: a size that is as great, or greater, and blocks behind those that it has.
func TestGrow(t *testing.T) {
	for _, c := range []struct {
		x      inode.Inode
		size   int
		blocks []int
		want   inode.Inode
	}{
		{made(1, 0), 0, nil, made(1, 0)},
		{made(2, 0), 1, []int{5}, made(2, 1, 5, 1)},
		{made(1, 100, 7, 2), 100, nil, made(1, 100, 7, 2)},
		{made(1, 100, 7, 2), 128, []int{}, made(1, 128, 7, 2)},
		{made(1, 100, 7, 2), 129, []int{9}, made(1, 129, 7, 3)},
		{made(1, 100, 7, 2), 192, []int{6}, made(1, 192, 7, 2, 6, 1)},
		{made(2, 64, 7, 1), 512, []int{8, 9, 20, 21, 19, 1, 2}, made(2, 512, 7, 3, 20, 2, 19, 1, 1, 2)},
		{made(2, 448, 4088, 7), 449, []int{4095}, made(2, 449, 4088, 8)},
		{made(1, 128, 8, 1, 7, 1), 200, []int{3, 4}, made(1, 200, 8, 1, 7, 1, 3, 2)},
	} {
		was, list := c.x, slices.Clone(c.blocks)
		was.Ext = slices.Clone(c.x.Ext)
		if x, e := inode.Grow(c.x, c.size, c.blocks); e != api.OK || !equal(x, c.want) {
			t.Error(c.x, c.size, c.blocks, "is", x, int(e), "want", c.want)
		}
		if !equal(c.x, was) || !slices.Equal(c.blocks, list) {
			t.Error("the arguments were changed", c.x, c.blocks)
		}
	}
}

// P28.3: the error of Check; then ErrState of the free inode, or a lesser size; then those of Of.
func TestGrowErrors(t *testing.T) {
	check := func(x inode.Inode, size int, want api.Errno, blocks ...int) {
		t.Helper()
		if y, e := inode.Grow(x, size, blocks); e != want || !isZero(y) {
			t.Error(x, size, blocks, "is", y, int(e), "want", int(want))
		}
	}
	sizes := []int{math.MinInt, -1, 0, 1, 64, 100, 512, 513, math.MaxInt}
	for _, size := range sizes {
		for _, x := range wrong() {
			check(x, size, api.ErrForm)
			check(x, size, api.ErrForm, 50)
		}
		check(made(1, 513, 7, 1), size, api.ErrBig)
		check(made(0, 513), size, api.ErrBig)
		check(made(3, 0), size, api.ErrArg)
		check(made(-1, 513), size, api.ErrArg, 7)
		check(inode.Inode{}, size, api.ErrState)
		check(inode.Inode{}, size, api.ErrState, 7)
	}
	x := made(2, 100, 7, 2)
	for _, size := range []int{99, 64, 1, 0, -1, math.MinInt} {
		check(x, size, api.ErrState)
		check(x, size, api.ErrState, 9)
		check(x, size, api.ErrState, -1, 7)
	}
	for _, size := range []int{513, 576, math.MaxInt} {
		check(x, size, api.ErrBig)
		check(x, size, api.ErrBig, 9, 10, 11, 12, 13, 14, 15)
		check(x, size, api.ErrBig, 7, -1)
	}
	check(x, 100, api.ErrForm, 9)
	check(x, 128, api.ErrForm, 9)
	check(x, 129, api.ErrForm)
	check(x, 192, api.ErrForm, 9, 10)
	check(x, 192, api.ErrForm, 7)
	check(x, 192, api.ErrForm, 8)
	check(x, 256, api.ErrForm, 9, 9)
	check(x, 192, api.ErrForm, -1)
	check(x, 192, api.ErrForm, 4096)
	check(x, 512, api.ErrForm, 9, 10, 11, 12, 13, 14, 15)
	check(made(1, 512, 0, 8), 512, api.ErrForm, 9)
	check(made(1, 0), -1, api.ErrState)
}

// P28.3: the first blocks stay, and the others are told in order.
func TestCut(t *testing.T) {
	for _, c := range []struct {
		x       inode.Inode
		size    int
		want    inode.Inode
		dropped []int
	}{
		{made(1, 0), 0, made(1, 0), nil},
		{made(1, 100, 7, 2), 100, made(1, 100, 7, 2), nil},
		{made(1, 100, 7, 2), 65, made(1, 65, 7, 2), nil},
		{made(1, 100, 7, 2), 64, made(1, 64, 7, 1), []int{8}},
		{made(2, 100, 7, 2), 1, made(2, 1, 7, 1), []int{8}},
		{made(2, 100, 7, 2), 0, made(2, 0), []int{7, 8}},
		{made(1, 512, 0, 8), 511, made(1, 511, 0, 8), nil},
		{made(1, 512, 0, 8), 449, made(1, 449, 0, 8), nil},
		{made(1, 512, 0, 8), 448, made(1, 448, 0, 7), []int{7}},
		{made(1, 512, 0, 8), 0, made(1, 0), []int{0, 1, 2, 3, 4, 5, 6, 7}},
		{made(1, 192, 9, 1, 3, 2), 128, made(1, 128, 9, 1, 3, 1), []int{4}},
		{made(1, 192, 9, 1, 3, 2), 64, made(1, 64, 9, 1), []int{3, 4}},
		{made(1, 192, 9, 2, 3, 1), 30, made(1, 30, 9, 1), []int{10, 3}},
		{made(2, 512, 30, 3, 20, 2, 300, 1, 4000, 2), 250, made(2, 250, 30, 3, 20, 1), []int{21, 300, 4000, 4001}},
	} {
		was := c.x
		was.Ext = slices.Clone(c.x.Ext)
		if x, l, e := inode.Cut(c.x, c.size); e != api.OK || !equal(x, c.want) || !slices.Equal(l, c.dropped) {
			t.Error(c.x, c.size, "is", x, l, int(e), "want", c.want, c.dropped)
		}
		if !equal(c.x, was) {
			t.Error("the argument was changed", c.x)
		}
	}
}

// P28.3: the error of Check; then ErrState of the free inode; then ErrRange of a size that is less than none, or greater.
func TestCutErrors(t *testing.T) {
	check := func(x inode.Inode, size int, want api.Errno) {
		t.Helper()
		if y, l, e := inode.Cut(x, size); e != want || !isZero(y) || len(l) != 0 {
			t.Error(x, size, "is", y, l, int(e), "want", int(want))
		}
	}
	for _, size := range []int{math.MinInt, -1, 0, 1, 64, 100, 512, 513, math.MaxInt} {
		for _, x := range wrong() {
			check(x, size, api.ErrForm)
		}
		check(made(1, 513, 7, 1), size, api.ErrBig)
		check(made(0, 513), size, api.ErrBig)
		check(made(3, 0), size, api.ErrArg)
		check(made(-1, 513), size, api.ErrArg)
		check(inode.Inode{}, size, api.ErrState)
	}
	for _, x := range right()[1:] {
		for _, size := range []int{math.MinInt, -64, -1, x.Size + 1, x.Size + 64, 513, math.MaxInt} {
			check(x, size, api.ErrRange)
		}
	}
}

// P28.4: an inode that grew, and is cut to what it was, is unchanged, and has exactly its new blocks no longer; what was cut off can be had again.
func TestTheorem(t *testing.T) {
	r := rand.New(rand.NewSource(287))
	for range 5000 {
		x := random(r)
		size := x.Size + r.Intn(maxSize+1-x.Size)
		var more []int
		for len(more) < needs(size)-needs(x.Size) {
			b := r.Intn(last + 1)
			if len(x.Ext) > 0 && r.Intn(3) > 0 {
				b = min(x.Ext[len(x.Ext)-1].Start+r.Intn(12), last)
			}
			if !slices.Contains(more, b) && !slices.Contains(blocksOf(x), b) {
				more = append(more, b)
			}
		}
		grown, e := inode.Grow(x, size, more)
		if e != api.OK || !isRight(grown) || grown.Mode != x.Mode || grown.Size != size || !slices.Equal(blocksOf(grown), slices.Concat(blocksOf(x), more)) {
			t.Fatal(x, size, more, "is", grown, int(e))
		}
		cut, l, e := inode.Cut(grown, x.Size)
		if e != api.OK || !inode.Same(cut, x) || !equal(cut, x) || !slices.Equal(l, more) {
			t.Fatal(x, "grew to", grown, "and is", cut, l, int(e))
		}
		if again, e := inode.Grow(cut, size, l); e != api.OK || !equal(again, grown) {
			t.Fatal(cut, "grew to", again, int(e), "want", grown)
		}
	}
}

// Rule 5: results are new memory, also where nothing changes.
func TestNewMemory(t *testing.T) {
	x := made(1, 192, 9, 1, 3, 2)
	want := made(1, 192, 9, 1, 3, 2)
	blocks := []int{9, 3, 4}
	same, _ := inode.Of(1, 192, blocks)
	grown, _ := inode.Grow(x, 192, nil)
	cut, none, _ := inode.Cut(x, 192)
	for _, y := range []inode.Inode{same, grown, cut} {
		if !equal(y, want) {
			t.Error(y)
		}
		clear(y.Ext)
		_ = append(y.Ext[:1], inode.Extent{Start: 70, Len: 3})
		if !equal(x, want) || !slices.Equal(blocks, []int{9, 3, 4}) {
			t.Fatal("the argument is", x, blocks)
		}
	}
	_ = append(none, 70)
	less, dropped, _ := inode.Cut(x, 64)
	clear(dropped)
	l := inode.Blocks(x)
	clear(l)
	if !equal(less, made(1, 64, 9, 1)) || !equal(x, want) {
		t.Error("a list was kept", less, x)
	}
	few := make([]int, 1, 8)
	few[0] = 5
	inode.Grow(x, 256, few)
	inode.Of(1, 64, few)
	if !slices.Equal(few[:8], []int{5, 0, 0, 0, 0, 0, 0, 0}) {
		t.Error("something was appended to an argument", few[:8])
	}
	b, _ := inode.Put(x)
	y, _ := inode.Get(b)
	clear(b)
	if !equal(y, want) {
		t.Error("the bytes were kept", y)
	}
}
