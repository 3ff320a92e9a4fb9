package vol_test

import (
	"bytes"
	"math"
	"math/rand"
	"slices"
	"testing"

	"catenary/api"
	"catenary/vol"
)

func patch(key uint32, ver uint64, data ...byte) vol.Patch {
	return vol.Patch{Key: key, Ver: ver, Data: data}
}

// long returns a patch with so many bytes of data.
func long(key uint32, n int) vol.Patch {
	return vol.Patch{Key: key, Ver: 1, Data: bytes.Repeat([]byte{7}, n)}
}

// row returns n patches whose keys follow each other, from a first one on.
func row(n int, first uint32) []vol.Patch {
	var l []vol.Patch
	for k := range n {
		l = append(l, patch(first+uint32(k), uint64(k), byte(k)))
	}
	return l
}

func same(x, y []vol.Patch) bool {
	return slices.EqualFunc(x, y, func(p, q vol.Patch) bool {
		return p.Key == q.Key && p.Ver == q.Ver && bytes.Equal(p.Data, q.Data)
	})
}

func clone(l []vol.Patch) []vol.Patch {
	var made []vol.Patch
	for _, p := range l {
		made = append(made, patch(p.Key, p.Ver, p.Data...))
	}
	return made
}

func number(n uint64, width int) []byte {
	b := make([]byte, width)
	for at := width - 1; at >= 0; at-- {
		b[at], n = byte(n%256), n/256
	}
	return b
}

// bytesOf returns what the bytes of a root block with these patches are, part by part, whatever they are.
func bytesOf(l []vol.Patch) []byte {
	b := []byte{byte(len(l))}
	for _, p := range l {
		b = slices.Concat(b, number(uint64(p.Key), 4), number(p.Ver, 8), number(uint64(len(p.Data)), 2), p.Data)
	}
	return b
}

// intent is patches of a volume.
type intent struct {
	s vol.Shape
	l []vol.Patch
}

// right are valid intents, with patches, at the edges.
func right() []intent {
	big := shape(maxInodes, maxBlocks)
	var full []vol.Patch
	for k := range uint32(maxPatch) {
		full = append(full, vol.Patch{Key: 161 - 3*(maxPatch-1) + 3*k, Ver: math.MaxUint64 - uint64(k), Data: bytes.Repeat([]byte{byte(k)}, maxData)})
	}
	return []intent{
		{shape(1, 1), []vol.Patch{patch(1, 0)}}, {shape(1, 1), []vol.Patch{patch(3, math.MaxUint64, 255)}}, {shape(1, 1), []vol.Patch{patch(1, 1, 1), patch(2, 2, 2, 2), patch(3, 3)}},
		{shape(4, 3), []vol.Patch{patch(2, 1<<63), patch(8, 0, 0, 0)}}, {shape(4, 3), []vol.Patch{long(1, 63), long(2, 64), long(5, 0), long(6, 1)}},
		{big, []vol.Patch{patch(161, 5, 1)}}, {big, row(maxPatch, 1)}, {big, row(maxPatch, 142)}, {big, row(maxPatch-1, 60)}, {big, full}, {shape(1, maxBlocks), row(maxPatch, 79)}, {shape(maxInodes, 1), row(maxPatch, 47)},
	}
}

// fault is patches of a valid volume that are no intent, and what is wrong.
type fault struct {
	s    vol.Shape
	l    []vol.Patch
	want api.Errno
}

func wrong() []fault {
	s, big := shape(4, 3), shape(maxInodes, maxBlocks)
	l := []fault{
		{s, []vol.Patch{patch(2, 1), patch(2, 1)}, api.ErrForm}, {s, []vol.Patch{patch(2, 1), patch(2, 2, 5)}, api.ErrForm}, {s, []vol.Patch{patch(3, 1), patch(2, 1)}, api.ErrForm},
		{s, []vol.Patch{patch(1, 1), patch(8, 1), patch(7, 1)}, api.ErrForm}, {s, []vol.Patch{patch(1, 1), patch(3, 1), patch(1, 1)}, api.ErrForm},
		{s, []vol.Patch{patch(1, 1), patch(0, 1)}, api.ErrRange}, // its Key ahead of its place
		{s, []vol.Patch{patch(8, 1), patch(9, 1)}, api.ErrRange}, {s, []vol.Patch{patch(1, 1), patch(9, 1), patch(1, 1)}, api.ErrRange}, {s, []vol.Patch{patch(2, 1), patch(1, 1), patch(9, 1)}, api.ErrForm},
		{s, []vol.Patch{long(2, 65), patch(1, 1)}, api.ErrLong}, {s, []vol.Patch{long(2, 65), patch(9, 1)}, api.ErrLong}, {s, []vol.Patch{patch(2, 1), long(1, 65)}, api.ErrForm}, {s, []vol.Patch{patch(2, 1), long(9, 65)}, api.ErrRange},
		{s, []vol.Patch{patch(2, 1), long(3, 65), patch(4, 1)}, api.ErrLong}, {s, []vol.Patch{patch(2, 1), patch(2, 1), long(4, 65)}, api.ErrForm},
		{big, row(maxPatch+1, 1), api.ErrFull}, {big, row(maxPatch+1, 0), api.ErrFull}, {big, row(100, 1), api.ErrFull}, {big, row(257, 1), api.ErrFull}, {s, make([]vol.Patch, maxPatch+1), api.ErrFull}, {s, make([]vol.Patch, 1<<16+1), api.ErrFull},
		{s, make([]vol.Patch, maxPatch), api.ErrRange}, {s, row(maxPatch, 1), api.ErrRange}, {big, row(maxPatch, 0), api.ErrRange}, {big, row(maxPatch, 143), api.ErrRange},
	}
	for _, key := range []uint32{0, 9, 10, 255, 256, 257, 1 << 16, 1<<16 + 1, 1 << 31, math.MaxUint32 - 1, math.MaxUint32} {
		l = append(l, fault{s, []vol.Patch{patch(key, 1, 1)}, api.ErrRange}, fault{s, []vol.Patch{long(key, 65)}, api.ErrRange}, fault{s, []vol.Patch{patch(1, 1), patch(key, 1)}, api.ErrRange}, fault{s, []vol.Patch{patch(key, 1), patch(1, 1)}, api.ErrRange})
	}
	for _, n := range []int{65, 66, 128, 255, 256, 257, 2048, 1 << 16, 1<<16 + 1} {
		l = append(l, fault{s, []vol.Patch{long(1, n)}, api.ErrLong}, fault{s, []vol.Patch{patch(1, 1), long(8, n)}, api.ErrLong})
	}
	return append(l, fault{shape(1, 1), []vol.Patch{patch(4, 1)}, api.ErrRange}, fault{big, []vol.Patch{patch(162, 1)}, api.ErrRange}, fault{shape(maxInodes, 1), []vol.Patch{patch(67, 1)}, api.ErrRange})
}

// P30.2: which patches are an intent; ErrArg of no volume, ErrFull of too many, then patch by patch ErrRange, ErrForm and ErrLong.
func TestCheck(t *testing.T) {
	for _, x := range right() {
		if e := vol.Check(x.s, x.l); e != api.OK {
			t.Error(x, "is", int(e))
		}
	}
	for _, f := range wrong() {
		if e := vol.Check(f.s, f.l); e != f.want {
			t.Error(f.s, len(f.l), f.l[0].Key, "is", int(e), "want", int(f.want))
		}
	}
	for _, s := range shapes {
		if vol.Check(s, nil) != api.OK || vol.Check(s, []vol.Patch{}) != api.OK {
			t.Error(s, "without patches is", int(vol.Check(s, nil)))
		}
		for key := range uint32(300) {
			want := api.OK
			if key == 0 || int(key) >= len(meanings(s)) {
				want = api.ErrRange
			}
			if e := vol.Check(s, []vol.Patch{patch(key, 1)}); e != want {
				t.Error(s, key, "is", int(e), "want", int(want))
			}
		}
	}
	for _, s := range noShapes() {
		for _, l := range [][]vol.Patch{nil, {}, row(1, 1), row(1, 0), row(maxPatch+1, 1), {long(1, 65)}} {
			if e := vol.Check(s, l); e != api.ErrArg {
				t.Error(s, l, "is", int(e))
			}
		}
	}
}

// P30.2: the number of patches, and for each its Key, its Ver and its Data; no bytes for none.
func TestPut(t *testing.T) {
	b, e := vol.Put(shape(4, 3), []vol.Patch{patch(2, 258, 9, 8), patch(8, 1)})
	want := []byte{2, 0, 0, 0, 2, 0, 0, 0, 0, 0, 0, 1, 2, 0, 2, 9, 8, 0, 0, 0, 8, 0, 0, 0, 0, 0, 0, 0, 1, 0, 0}
	if e != api.OK || !bytes.Equal(b, want) {
		t.Error(b, int(e), "want", want)
	}
	for _, x := range right() {
		was := clone(x.l)
		if b, e := vol.Put(x.s, x.l); e != api.OK || !bytes.Equal(b, bytesOf(x.l)) {
			t.Error(x, "is", b, int(e))
		}
		if !same(x.l, was) {
			t.Error("the patches were changed", x.l)
		}
	}
	for _, s := range shapes {
		for _, l := range [][]vol.Patch{nil, {}} {
			if b, e := vol.Put(s, l); e != api.OK || len(b) != 0 {
				t.Error(s, "without patches is", b, int(e))
			}
		}
	}
	for _, f := range wrong() {
		if b, e := vol.Put(f.s, f.l); e != f.want || len(b) != 0 {
			t.Error(f.s, len(f.l), f.l[0].Key, "is", b, int(e), "want", int(f.want))
		}
	}
	for _, s := range noShapes() {
		for _, l := range [][]vol.Patch{nil, row(1, 1), row(maxPatch+1, 1)} {
			if b, e := vol.Put(s, l); e != api.ErrArg || len(b) != 0 {
				t.Error(s, l, "is", b, int(e))
			}
		}
	}
}

func mustNotGet(t *testing.T, s vol.Shape, b []byte, want api.Errno) {
	t.Helper()
	if l, e := vol.Get(s, b); e != want || len(l) != 0 {
		t.Error(s, b, "is", l, int(e), "want", int(want))
	}
}

// P30.2: the patches of which these are the bytes; none of no bytes, whatever the volume is; otherwise ErrArg of no volume first.
func TestGet(t *testing.T) {
	for _, x := range right() {
		b := bytesOf(x.l)
		l, e := vol.Get(x.s, b)
		if e != api.OK || !same(l, x.l) {
			t.Error(b, "is", l, int(e), "want", x.l)
		}
		if !bytes.Equal(b, bytesOf(x.l)) {
			t.Error("the bytes were changed", b)
		}
	}
	for _, s := range append(noShapes(), shapes...) {
		for _, b := range [][]byte{nil, {}} {
			if l, e := vol.Get(s, b); e != api.OK || len(l) != 0 {
				t.Error(s, "no bytes are", l, int(e))
			}
		}
	}
	for _, s := range noShapes() {
		for _, b := range [][]byte{{0}, {1}, {21}, {255}, bytesOf(row(1, 1)), bytesOf(row(2, 1))[:20], append(bytesOf(row(1, 1)), 0)} {
			mustNotGet(t, s, b, api.ErrArg)
		}
	}
}

// P30.2: ErrShort wherever the bytes end too early.
func TestGetShort(t *testing.T) {
	for _, x := range right() {
		b := bytesOf(x.l)
		for n := 1; n < len(b); n++ {
			mustNotGet(t, x.s, b[:n], api.ErrShort)
		}
	}
}

// P30.2: the errors of the parts, from the left.
func TestGetParts(t *testing.T) {
	s := shape(4, 3)
	for n := 1; n < 256; n++ { // a number of patches, and nothing behind it
		want := api.ErrShort
		if n > maxPatch {
			want = api.ErrForm
		}
		mustNotGet(t, s, []byte{byte(n)}, want)
		mustNotGet(t, s, append([]byte{byte(n)}, make([]byte, 11)...), want)
	}
	head := []byte{1, 0, 0, 0, 2, 0, 0, 0, 0, 0, 0, 0, 1}
	for _, n := range []uint64{65, 66, 255, 256, 320, 1 << 15, 65535} { // too long, however much follows
		for _, behind := range []int{0, 1, 64, 65, 66, 400} {
			mustNotGet(t, s, slices.Concat(head, number(n, 2), make([]byte, behind)), api.ErrLong)
		}
	}
	two := slices.Concat([]byte{2}, head[1:], []byte{0, 0})
	mustNotGet(t, s, slices.Concat(two, []byte{0, 0, 0, 3, 0, 0, 0, 0, 0, 0, 0, 1, 0, 65}), api.ErrLong)
	// A later part that ends too early, or is too long, comes ahead of patches that are not valid.
	mustNotGet(t, s, slices.Concat(two, []byte{0, 0, 0, 2, 0, 0, 0, 0, 0, 0, 0, 1, 0, 65}), api.ErrLong)
	mustNotGet(t, s, slices.Concat(two, []byte{0, 0, 0, 2, 0, 0, 0, 0, 0, 0, 0, 1, 0}), api.ErrShort)
	mustNotGet(t, s, []byte{2, 0, 0, 0, 0, 0, 0, 0, 0, 0, 0, 0, 1, 0, 0, 0}, api.ErrShort)
	mustNotGet(t, s, slices.Concat(head, []byte{0, 65}), api.ErrLong)
	mustNotGet(t, s, slices.Concat(head, []byte{0, 64}, make([]byte, 63)), api.ErrShort)
}

// P30.2: ErrForm of bytes behind the patches, of no patches, and of those that are not valid.
func TestGetForm(t *testing.T) {
	for _, x := range right() {
		for _, behind := range [][]byte{{0}, {1}, {0, 0, 0, 0}, bytesOf(x.l)} {
			mustNotGet(t, x.s, append(bytesOf(x.l), behind...), api.ErrForm)
		}
	}
	for _, s := range shapes {
		for n := 1; n < 40; n++ { // a number of patches that is 0
			mustNotGet(t, s, make([]byte, n), api.ErrForm)
		}
		mustNotGet(t, s, make([]byte, 3000), api.ErrForm)
		mustNotGet(t, s, []byte{0, 1}, api.ErrForm)
		mustNotGet(t, s, bytes.Repeat([]byte{255}, 3000), api.ErrForm)
	}
	for _, f := range wrong() {
		short := !slices.ContainsFunc(f.l, func(p vol.Patch) bool { return len(p.Data) > maxData })
		if len(f.l) <= maxPatch && short {
			mustNotGet(t, f.s, bytesOf(f.l), api.ErrForm)
		}
	}
	mustNotGet(t, shape(maxInodes, maxBlocks), bytesOf(row(maxPatch+1, 1)), api.ErrForm)
}

// P30.3: by increasing keys, those with the same one in their order, whatever else the patches are.
func TestSort(t *testing.T) {
	for _, c := range []struct {
		l, want []vol.Patch
	}{
		{nil, nil}, {[]vol.Patch{}, nil}, {[]vol.Patch{patch(5, 1, 2)}, []vol.Patch{patch(5, 1, 2)}},
		{[]vol.Patch{patch(5, 1), patch(2, 9, 4)}, []vol.Patch{patch(2, 9, 4), patch(5, 1)}},
		{[]vol.Patch{patch(5, 3), patch(2, 9), patch(5, 1), patch(2, 8), patch(5, 2, 1)}, []vol.Patch{patch(2, 9), patch(2, 8), patch(5, 3), patch(5, 1), patch(5, 2, 1)}},
		{[]vol.Patch{patch(math.MaxUint32, 1), patch(1<<31, 2), patch(0, 3), patch(math.MaxInt32, 4)}, []vol.Patch{patch(0, 3), patch(math.MaxInt32, 4), patch(1<<31, 2), patch(math.MaxUint32, 1)}},
		{[]vol.Patch{long(9, 300), long(8, 65)}, []vol.Patch{long(8, 65), long(9, 300)}},
	} {
		was := clone(c.l)
		if got := vol.Sort(c.l); !same(got, c.want) {
			t.Error(c.l, "is", got)
		}
		if !same(c.l, was) {
			t.Error("the patches were changed", c.l)
		}
	}
	r := rand.New(rand.NewSource(303))
	for range 500 {
		var l []vol.Patch
		for at := range r.Intn(300) {
			l = append(l, patch(uint32(r.Intn(20)), uint64(at), byte(at)))
		}
		var want []vol.Patch
		for key := range uint32(20) {
			for _, p := range l {
				if p.Key == key {
					want = append(want, p)
				}
			}
		}
		if got := vol.Sort(l); !same(got, want) {
			t.Fatal(l, "is", got)
		}
	}
}

// P30.3: what is sorted is new memory, that of the data, too; so is what is put and got (rule 5).
func TestNewMemory(t *testing.T) {
	l := []vol.Patch{patch(3, 1, 1, 2), patch(2, 2, 3, 4)}
	was := clone(l)
	sorted := vol.Sort(l)
	for _, p := range sorted {
		clear(p.Data)
		_ = append(p.Data[:1], 9)
	}
	clear(sorted)
	if !same(l, was) {
		t.Fatal("the patches are", l)
	}
	sorted = vol.Sort(l)
	clear(l[0].Data)
	if !same(sorted, []vol.Patch{patch(2, 2, 3, 4), patch(3, 1, 1, 2)}) {
		t.Error("the patches were kept", sorted)
	}
	want := []vol.Patch{patch(2, 2, 3, 4), patch(3, 1, 1, 2)}
	b := bytesOf(want)
	got, _ := vol.Get(shape(4, 3), b)
	clear(b)
	if !same(got, want) {
		t.Error("the bytes were kept", got)
	}
	_ = append(got[0].Data, 255, 255, 255, 255, 255, 255, 255, 255, 255, 255, 255, 255, 255, 255, 255, 255)
	if !same(got, want) {
		t.Error("one's data lie behind another's", got)
	}
	put, _ := vol.Put(shape(4, 3), want)
	clear(put)
	if !same(want, got) {
		t.Error("the patches were put as they are", want)
	}
}

// random returns a valid volume, and an intent of it with patches.
func random(r *rand.Rand) intent {
	s := shape(1+r.Intn(maxInodes), 1+r.Intn(maxBlocks))
	keys := r.Perm(s.Inodes + s.Blocks + 1)
	keys = keys[:min(1+r.Intn(maxPatch), len(keys))]
	slices.Sort(keys)
	var l []vol.Patch
	for _, key := range keys {
		data := make([]byte, r.Intn(maxData+1))
		r.Read(data)
		l = append(l, vol.Patch{Key: uint32(key + 1), Ver: r.Uint64() >> r.Intn(64), Data: data})
	}
	return intent{s, l}
}

// P30.4: what is put is got, and fits into a block of the chains; what has been got is put as the same bytes.
func TestPutAndGet(t *testing.T) {
	r := rand.New(rand.NewSource(304))
	for range 3000 {
		x := random(r)
		b, e := vol.Put(x.s, x.l)
		if e != api.OK || len(b) > api.MaxValue {
			t.Fatal(x, "is", b, int(e))
		}
		if l, e := vol.Get(x.s, b); e != api.OK || !same(l, x.l) {
			t.Fatal(x, "is got as", l, int(e))
		}
		mixed := clone(x.l)
		r.Shuffle(len(mixed), func(i, k int) { mixed[i], mixed[k] = mixed[k], mixed[i] })
		if !same(vol.Sort(mixed), x.l) {
			t.Fatal(mixed, "is", vol.Sort(mixed))
		}
	}
	for range 100000 { // one bit or one byte of a valid one changed
		x := random(r)
		x.l = x.l[:min(len(x.l), 3)]
		b := bytesOf(x.l)
		k := r.Intn(len(b))
		if r.Intn(2) == 0 {
			b[k] ^= 1 << r.Intn(8)
		} else {
			b[k] = byte(r.Intn(256))
		}
		l, e := vol.Get(x.s, b)
		if e != api.OK {
			continue
		}
		if again, e := vol.Put(x.s, l); e != api.OK || !bytes.Equal(again, b) {
			t.Fatal(b, "is", l, "and again", again, int(e))
		}
	}
	var most []vol.Patch
	for key := range uint32(maxPatch) {
		most = append(most, long(key+1, maxData))
	}
	if b, e := vol.Put(shape(maxInodes, maxBlocks), most); e != api.OK || len(b) != 1+maxPatch*78 || len(b) > api.MaxValue {
		t.Error("the greatest intent has", len(b), "bytes", int(e))
	}
}
