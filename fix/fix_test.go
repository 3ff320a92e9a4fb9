package fix_test

import (
	"bytes"
	"math"
	"math/rand"
	"testing"

	"catenary/api"
	"catenary/fix"
)

// put tells what an Out for most bytes has after the steps.
func put(most int, steps ...func(o *fix.Out)) ([]byte, api.Errno) {
	o := fix.New(most)
	for _, step := range steps {
		step(o)
	}
	return o.Done()
}

func number(n uint64, width int) func(o *fix.Out) {
	return func(o *fix.Out) { o.Put(n, width) }
}

func raw(b string) func(o *fix.Out) {
	return func(o *fix.Out) { o.Raw([]byte(b)) }
}

func text(b string) func(o *fix.Out) {
	return func(o *fix.Out) { o.Text([]byte(b)) }
}

func truth(x bool) func(o *fix.Out) {
	return func(o *fix.Out) { o.Bool(x) }
}

func wantPut(t *testing.T, name string, most int, want string, wantErr api.Errno, steps ...func(o *fix.Out)) {
	t.Helper()
	b, e := put(most, steps...)
	if string(b) != want || e != wantErr {
		t.Errorf("%s: got % x, error %d; want % x, error %d", name, b, int(e), want, int(wantErr))
	}
}

// P1.1: what New permits.
func TestNewPermitsMostBytes(t *testing.T) {
	wantPut(t, "nothing", 5, "", api.OK)
	wantPut(t, "full", 3, "abc", api.OK, raw("abc"))
	wantPut(t, "one too many", 2, "", api.ErrLong, raw("abc"))
	for _, most := range []int{0, -1, math.MinInt} {
		wantPut(t, "no room, nothing put", most, "", api.OK)
		wantPut(t, "no room, no bytes put", most, "", api.OK, raw(""))
		wantPut(t, "no room, a byte put", most, "", api.ErrLong, raw("a"))
	}
	wantPut(t, "much room", math.MaxInt, "a", api.OK, raw("a"))
}

// P1.1: numbers, most significant byte first.
func TestPutNumbers(t *testing.T) {
	wantPut(t, "258 of 2", 9, "\x01\x02", api.OK, number(258, 2))
	wantPut(t, "258 of 1", 9, "", api.ErrForm, number(258, 1))
	wantPut(t, "zeros ahead", 9, "\x00\x00\x07", api.OK, number(7, 3))
	wantPut(t, "several", 9, "\x01\x00\x02", api.OK, number(1, 1), number(2, 2))
	const all = "\x01\x23\x45\x67\x89\xab\xcd\xef"
	const n = uint64(0x0123456789abcdef)
	for width := 1; width <= 8; width++ {
		wantPut(t, "each width", 8, all[:width], api.OK, number(n>>(64-8*width), width))
	}
}

// P1.1: the greatest number of each width, and the next one.
func TestPutAtTheWidthsEdge(t *testing.T) {
	for width := 1; width < 8; width++ {
		beyond := uint64(1) << (8 * width)
		wantPut(t, "greatest", 8, string(bytes.Repeat([]byte{255}, width)), api.OK, number(beyond-1, width))
		wantPut(t, "one more", 8, "", api.ErrForm, number(beyond, width))
		wantPut(t, "greatest of all", 8, "", api.ErrForm, number(math.MaxUint64, width))
	}
	wantPut(t, "greatest of all", 8, "\xff\xff\xff\xff\xff\xff\xff\xff", api.OK, number(math.MaxUint64, 8))
}

// P1.1: the errors of Put, and their order.
func TestPutErrors(t *testing.T) {
	for _, width := range []int{0, -1, 9, 64, math.MinInt, math.MaxInt} {
		wantPut(t, "width", 99, "", api.ErrArg, number(0, width))
		wantPut(t, "width ahead of all else", 0, "", api.ErrArg, number(math.MaxUint64, width))
	}
	wantPut(t, "form ahead of long", 0, "", api.ErrForm, number(256, 1))
	for width := 1; width <= 8; width++ {
		wantPut(t, "just enough", width+1, "a"+string(make([]byte, width)), api.OK, raw("a"), number(0, width))
		wantPut(t, "one too few", width, "", api.ErrLong, raw("a"), number(0, width))
	}
}

// P1.1: after an error nothing is appended, and the first error stays.
func TestOutStaysWrong(t *testing.T) {
	wantPut(t, "arg, then all else", 9, "", api.ErrArg, number(1, 1), number(1, 0), number(256, 1), raw("0123456789"))
	wantPut(t, "form, then good ones", 9, "", api.ErrForm, number(1, 1), number(256, 1), number(1, 1), raw("a"), text("b"), truth(true))
	wantPut(t, "long, then ones that fit", 4, "", api.ErrLong, raw("01234"), raw("a"), number(1, 9))
	wantPut(t, "long text, then wrong number", 4, "", api.ErrLong, text("012"), number(256, 1))
	wantPut(t, "long bool, then wrong width", 0, "", api.ErrLong, truth(false), number(1, 9))
	o := fix.New(9)
	o.Put(256, 1)
	o.Done()
	o.Raw([]byte("a"))
	if b, e := o.Done(); len(b) != 0 || e != api.ErrForm {
		t.Error("later than Done:", b, int(e))
	}
}

// P1.1: raw bytes stay as they were put.
func TestOutRaw(t *testing.T) {
	wantPut(t, "two", 5, "ab\x00\xff!", api.OK, raw("ab"), raw("\x00\xff!"))
	wantPut(t, "room is for all together", 4, "", api.ErrLong, raw("ab"), raw("cde"))
	wantPut(t, "none where no room is left", 2, "ab", api.OK, raw("ab"), raw(""))
	b := []byte("abc")
	o := fix.New(9)
	o.Raw(b)
	o.Text(b)
	if string(b) != "abc" {
		t.Error("an argument was changed")
	}
	b[0] = 'X'
	if got, _ := o.Done(); string(got) != "abc\x00\x03abc" {
		t.Errorf("an argument was kept: %q", got)
	}
}

// P1.1: strings behind their lengths.
func TestOutText(t *testing.T) {
	wantPut(t, "two letters", 4, "\x00\x02ab", api.OK, text("ab"))
	wantPut(t, "none", 2, "\x00\x00", api.OK, text(""))
	wantPut(t, "none, too long", 1, "", api.ErrLong, text(""))
	wantPut(t, "one too few", 3, "", api.ErrLong, text("ab"))
	wantPut(t, "room for the bytes alone", 2, "", api.ErrLong, text("ab"))
	wantPut(t, "behind another one", 6, "\x00\x01a\x00\x01b", api.OK, text("a"), text("b"))
	long := string(bytes.Repeat([]byte{'x'}, 65535))
	wantPut(t, "longest", 65537, "\xff\xff"+long, api.OK, text(long))
	wantPut(t, "longest, too long", 65536, "", api.ErrLong, text(long))
	wantPut(t, "one longer", 99999, "", api.ErrForm, text(long+"x"))
	wantPut(t, "one longer: form ahead of long", 0, "", api.ErrForm, text(long+"x"))
	wantPut(t, "256", 258, "\x01\x00"+long[:256], api.OK, text(long[:256]))
}

// P1.1: bools.
func TestOutBool(t *testing.T) {
	wantPut(t, "both", 2, "\x01\x00", api.OK, truth(true), truth(false))
	wantPut(t, "true, too long", 0, "", api.ErrLong, truth(true))
	wantPut(t, "false, too long", 1, "", api.ErrLong, raw("a"), truth(false))
}

// P1.1: what Done returns is new memory each time.
func TestOutDoneGivesNewMemory(t *testing.T) {
	o := fix.New(20)
	o.Raw([]byte("abc"))
	first, _ := o.Done()
	second, e := o.Done()
	if string(second) != "abc" || e != api.OK {
		t.Fatal("a second Done:", second, int(e))
	}
	first[0] = 'X'
	_ = append(first, "YYYY"...)
	if got, _ := o.Done(); string(got) != "abc" || string(second) != "abc" {
		t.Error("results of Done share memory")
	}
}

// asked is what an In answers: a number, bytes, what is left, and the error.
type asked struct {
	n    uint64
	b    string
	left int
	err  api.Errno
}

func wantRead(t *testing.T, name string, i *fix.In, n uint64, b []byte, want asked) {
	t.Helper()
	got := asked{n, string(b), i.Left(), i.Err()}
	if got != want {
		t.Errorf("%s: got %+v; want %+v", name, got, want)
	}
}

// P1.2: numbers of each width.
func TestGetNumbers(t *testing.T) {
	const all = "\xfe\x23\x45\x67\x89\xab\xcd\xef"
	const n = uint64(0xfe23456789abcdef)
	for width := 1; width <= 8; width++ {
		i := fix.Of([]byte(all))
		wantRead(t, "each width", i, i.Get(width), nil, asked{n: n >> (64 - 8*width), left: 8 - width})
	}
	i := fix.Of([]byte("\x01\x02\x03\x04"))
	wantRead(t, "first", i, i.Get(1), nil, asked{n: 1, left: 3})
	wantRead(t, "second", i, i.Get(3), nil, asked{n: 0x020304})
	wantRead(t, "beyond the end", i, i.Get(1), nil, asked{err: api.ErrShort})
}

// P1.2: the errors of Get.
func TestGetErrors(t *testing.T) {
	for _, width := range []int{0, -1, 9, math.MinInt, math.MaxInt} {
		i := fix.Of([]byte("0123456789"))
		wantRead(t, "width", i, i.Get(width), nil, asked{err: api.ErrArg})
		i = fix.Of(nil)
		wantRead(t, "width ahead of short", i, i.Get(width), nil, asked{err: api.ErrArg})
	}
	for width := 1; width <= 8; width++ {
		i := fix.Of(bytes.Repeat([]byte{1}, width-1))
		wantRead(t, "one too few", i, i.Get(width), nil, asked{err: api.ErrShort})
	}
}

// P1.2: numbers that are not above a bound.
func TestUpto(t *testing.T) {
	i := fix.Of([]byte("\x01\x02\x01\x02\x01\x02\x09"))
	wantRead(t, "far below", i, i.Upto(2, math.MaxUint64), nil, asked{n: 258, left: 5})
	wantRead(t, "at the bound", i, i.Upto(2, 258), nil, asked{n: 258, left: 3})
	wantRead(t, "above it", i, i.Upto(2, 257), nil, asked{err: api.ErrForm})
	i = fix.Of([]byte("\xff\xff\xff\xff\xff\xff\xff\xff\x00"))
	wantRead(t, "greatest", i, i.Upto(8, math.MaxUint64), nil, asked{n: math.MaxUint64, left: 1})
	wantRead(t, "zero", i, i.Upto(1, 0), nil, asked{})
	wantRead(t, "short", i, i.Upto(1, 0), nil, asked{err: api.ErrShort})
	i = fix.Of([]byte("\x05"))
	wantRead(t, "width", i, i.Upto(9, 0), nil, asked{err: api.ErrArg})
	i = fix.Of([]byte("\x05"))
	wantRead(t, "short ahead of form", i, i.Upto(2, 0), nil, asked{err: api.ErrShort})
}

// P1.2: raw bytes.
func TestInRaw(t *testing.T) {
	i := fix.Of([]byte("abcde"))
	wantRead(t, "none", i, 0, i.Raw(0), asked{left: 5})
	wantRead(t, "two", i, 0, i.Raw(2), asked{b: "ab", left: 3})
	wantRead(t, "the rest", i, 0, i.Raw(3), asked{b: "cde"})
	wantRead(t, "none at the end", i, 0, i.Raw(0), asked{})
	wantRead(t, "beyond the end", i, 0, i.Raw(1), asked{err: api.ErrShort})
	for _, n := range []int{-1, math.MinInt} {
		i = fix.Of([]byte("abc"))
		wantRead(t, "below 0", i, 0, i.Raw(n), asked{err: api.ErrArg})
	}
	i = fix.Of(nil)
	wantRead(t, "below 0, of nothing", i, 0, i.Raw(-1), asked{err: api.ErrArg})
	for _, n := range []int{4, math.MaxInt} {
		i = fix.Of([]byte("abc"))
		wantRead(t, "too many", i, 0, i.Raw(n), asked{err: api.ErrShort})
	}
}

// P1.2: strings.
func TestInText(t *testing.T) {
	cases := []struct {
		name string
		in   string
		most int
		want asked
	}{
		{"two letters", "\x00\x02ab!", 9, asked{b: "ab", left: 1}},
		{"at the bound", "\x00\x02ab", 2, asked{b: "ab"}},
		{"above it", "\x00\x02ab", 1, asked{err: api.ErrLong}},
		{"none", "\x00\x00!", 0, asked{left: 1}},
		{"none, below 0", "\x00\x00", -1, asked{err: api.ErrLong}},
		{"some, far below 0", "\x00\x01a", math.MinInt, asked{err: api.ErrLong}},
		{"no length", "", 9, asked{err: api.ErrShort}},
		{"half a length", "\x00", 9, asked{err: api.ErrShort}},
		{"half a length, below 0", "\x00", -1, asked{err: api.ErrShort}},
		{"too few follow", "\x00\x03ab", 9, asked{err: api.ErrShort}},
		{"none follow", "\x00\x03", 3, asked{err: api.ErrShort}},
		{"too few follow, above the bound", "\x00\x03ab", 2, asked{err: api.ErrLong}},
		{"no bound", "\x00\x02ab", math.MaxInt, asked{b: "ab"}},
	}
	for _, c := range cases {
		i := fix.Of([]byte(c.in))
		wantRead(t, c.name, i, 0, i.Text(c.most), c.want)
	}
	long := bytes.Repeat([]byte{'x'}, 65535)
	i := fix.Of(append([]byte("\xff\xff"), long...))
	wantRead(t, "longest", i, 0, i.Text(65535), asked{b: string(long)})
}

// P1.2: bools.
func TestInBool(t *testing.T) {
	i := fix.Of([]byte("\x01\x00"))
	if !i.Bool() || i.Bool() || i.Done() != api.OK {
		t.Error("true and false", int(i.Err()))
	}
	if i.Bool() || i.Err() != api.ErrShort {
		t.Error("beyond the end", int(i.Err()))
	}
	for _, b := range []byte{2, 3, 128, 255} {
		i = fix.Of([]byte{b, 1})
		if i.Bool() || i.Err() != api.ErrForm || i.Left() != 0 {
			t.Error("byte", b, int(i.Err()), i.Left())
		}
	}
}

// P1.2: after an error nothing is read, and the first error stays.
func TestInStaysWrong(t *testing.T) {
	breaks := []struct {
		step func(i *fix.In)
		err  api.Errno
	}{
		{func(i *fix.In) { i.Get(0) }, api.ErrArg},
		{func(i *fix.In) { i.Raw(99) }, api.ErrShort},
		{func(i *fix.In) { i.Upto(1, 0) }, api.ErrForm},
		{func(i *fix.In) { i.Text(0) }, api.ErrLong},
		{func(i *fix.In) { i.Raw(-1) }, api.ErrArg},
	}
	for _, c := range breaks {
		i := fix.Of([]byte("\x01\x01\x01\x01\x01\x01\x01\x01\x01"))
		c.step(i)
		n := i.Get(1) + i.Get(9) + i.Upto(1, 1) + i.Upto(2, 0) + uint64(len(i.Raw(0))+len(i.Raw(1))+len(i.Raw(-1))+len(i.Text(9))+len(i.Text(-1)))
		if n != 0 || i.Bool() {
			t.Error("read after error", int(c.err))
		}
		if i.Err() != c.err || i.Done() != c.err || i.Left() != 0 {
			t.Error("want error", int(c.err), "got", int(i.Err()), int(i.Done()), i.Left())
		}
	}
}

// P1.2: Done asks for the end.
func TestInDone(t *testing.T) {
	if e := fix.Of(nil).Done(); e != api.OK {
		t.Error("of nothing", int(e))
	}
	i := fix.Of([]byte("ab"))
	if e := i.Err(); e != api.OK {
		t.Error("Err at the beginning", int(e))
	}
	i.Raw(1)
	if e := i.Done(); e != api.ErrForm {
		t.Error("a byte remains", int(e))
	}
	i = fix.Of([]byte("ab"))
	i.Raw(2)
	if i.Done() != api.OK || i.Err() != api.OK {
		t.Error("at the end", int(i.Done()))
	}
}

// P1.2: neither the bytes that are read nor those that are returned are shared.
func TestInSharesNothing(t *testing.T) {
	b := []byte("abcd\x00\x02efgh")
	i := fix.Of(b)
	first := i.Raw(2)
	first[0] = 'X'
	_ = append(first, "YYYY"...)
	if string(b) != "abcd\x00\x02efgh" {
		t.Errorf("the argument was changed: %q", b)
	}
	copy(b, "ZZZZZZZZZZ")
	second := i.Raw(2)
	third := i.Text(2)
	_ = append(second, "YYYY"...)
	_ = append(third, "YYYY"...)
	if string(second) != "cd" || string(third) != "ef" || string(i.Raw(2)) != "gh" {
		t.Error("the argument was kept, or a result grows over what follows")
	}
}

// P1: of a nil Out or In nothing comes but ErrNil.
func TestNil(t *testing.T) {
	var o *fix.Out
	o.Put(1, 1)
	o.Put(1, 0)
	o.Raw([]byte("a"))
	o.Text(make([]byte, 65536))
	o.Bool(true)
	if b, e := o.Done(); len(b) != 0 || e != api.ErrNil {
		t.Error("Out", b, int(e))
	}
	var i *fix.In
	if i.Get(1) != 0 || i.Get(0) != 0 || i.Upto(1, 1) != 0 || len(i.Raw(1)) != 0 || len(i.Raw(-1)) != 0 || len(i.Text(1)) != 0 || len(i.Text(-1)) != 0 || i.Bool() || i.Left() != 0 {
		t.Error("In")
	}
	if i.Err() != api.ErrNil || i.Done() != api.ErrNil {
		t.Error("In", int(i.Err()), int(i.Done()))
	}
}

// item is one thing that is put and read again.
type item struct {
	kind  int
	n     uint64
	width int
	b     []byte
}

func someItem(r *rand.Rand) item {
	width := 1 + r.Intn(8)
	b := make([]byte, r.Intn(20))
	r.Read(b)
	return item{kind: r.Intn(4), n: r.Uint64() >> (64 - 8*width), width: width, b: b}
}

func (x item) put(o *fix.Out) {
	switch x.kind {
	case 0:
		o.Put(x.n, x.width)
	case 1:
		o.Raw(x.b)
	case 2:
		o.Text(x.b)
	case 3:
		o.Bool(x.n&1 == 1)
	}
}

// read reads what stands in the place of x, which is equal to it where x was put.
func (x item) read(i *fix.In) item {
	y := item{kind: x.kind, n: x.n, width: x.width, b: x.b}
	switch x.kind {
	case 0:
		y.n = i.Get(x.width)
	case 1:
		y.b = i.Raw(len(x.b))
	case 2:
		y.b = i.Text(65535)
	case 3:
		y.n = 0
		if i.Bool() {
			y.n = 1
		}
	}
	return y
}

func (x item) same(y item) bool {
	if x.kind == 3 {
		return x.n&1 == y.n&1
	}
	return x.n == y.n && bytes.Equal(x.b, y.b)
}

// P1.3: what is encoded is decoded unchanged.
func TestEncodedIsDecoded(t *testing.T) {
	r := rand.New(rand.NewSource(1))
	for round := 0; round < 500; round++ {
		items := make([]item, r.Intn(12))
		o := fix.New(math.MaxInt)
		for at := range items {
			items[at] = someItem(r)
			items[at].put(o)
		}
		b, e := o.Done()
		if e != api.OK {
			t.Fatal("put", int(e))
		}
		i := fix.Of(b)
		for _, x := range items {
			if y := x.read(i); !x.same(y) {
				t.Fatalf("put %+v, read %+v", x, y)
			}
		}
		if e := i.Done(); e != api.OK {
			t.Fatal("read", int(e))
		}
	}
}

// P1.3: what is decoded completely is encoded as the same bytes.
func TestDecodedIsEncoded(t *testing.T) {
	r := rand.New(rand.NewSource(2))
	whole := 0
	for round := 0; round < 20000; round++ {
		b := make([]byte, r.Intn(12))
		for at := range b {
			b[at] = byte(r.Intn(3))
		}
		i := fix.Of(b)
		o := fix.New(len(b))
		for i.Left() > 0 && i.Err() == api.OK {
			someItem(r).read(i).put(o)
		}
		if i.Done() != api.OK {
			continue
		}
		whole++
		if got, e := o.Done(); e != api.OK || !bytes.Equal(got, b) {
			t.Fatalf("read % x, put % x, error %d", b, got, int(e))
		}
	}
	if whole < 100 {
		t.Error("too few were decoded completely:", whole)
	}
}

// P1: calls end without a panic, whatever they are given.
func TestAnyArguments(t *testing.T) {
	r := rand.New(rand.NewSource(3))
	numbers := []int{math.MinInt, -9, -1, 0, 1, 2, 7, 8, 9, 63, 64, 65535, math.MaxInt}
	some := func() int { return numbers[r.Intn(len(numbers))] }
	for round := 0; round < 5000; round++ {
		b := make([]byte, r.Intn(9))
		r.Read(b)
		o := fix.New(some())
		i := fix.Of(b)
		for step := 0; step < 4; step++ {
			o.Put(uint64(some()), some())
			o.Raw(b)
			o.Text(b)
			i.Upto(some(), uint64(some()))
			i.Raw(some())
			i.Text(some())
			i.Bool()
		}
		if got, e := o.Done(); e != api.OK && len(got) != 0 {
			t.Fatal("bytes beside an error")
		}
		if i.Err() != api.OK && i.Left() != 0 {
			t.Fatal("bytes left beside an error")
		}
	}
}
