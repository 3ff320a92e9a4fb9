package cmds_test

import (
	"bytes"
	"math"
	"math/rand"
	"slices"
	"strconv"
	"strings"
	"testing"

	"catenary/api"
	"catenary/cmds"
	"catenary/fix"
)

// sample is a valid command, its bytes and its text.
type sample struct {
	c     api.Cmd
	bytes []byte
	text  string
}

func samples() []sample {
	return []sample{
		{api.Cmd{}, make([]byte, 11), "noop"},
		{api.Cmd{Kind: api.Remove, Chain: 1, Epoch: 20, Node: 3}, []byte{1, 1, 0, 0, 0, 0, 0, 0, 0, 20, 3}, "remove 1 20 3"},
		{api.Cmd{Kind: api.Append, Chain: 0, Epoch: 1, Node: 1}, []byte{2, 0, 0, 0, 0, 0, 0, 0, 0, 1, 1}, "append 0 1 1"},
		{api.Cmd{Kind: api.Promote, Chain: 3, Epoch: math.MaxUint64, Node: 24}, []byte{3, 3, 255, 255, 255, 255, 255, 255, 255, 255, 24}, "promote 3 18446744073709551615 24"},
		{api.Cmd{Kind: api.Settle, Chain: 2, Epoch: 0x0102030405060708, Node: 10}, []byte{4, 2, 1, 2, 3, 4, 5, 6, 7, 8, 10}, "settle 2 72623859790382856 10"},
		{api.Cmd{Kind: api.Remove, Chain: 0, Epoch: 1 << 63, Node: 19}, []byte{1, 0, 128, 0, 0, 0, 0, 0, 0, 0, 19}, "remove 0 9223372036854775808 19"},
	}
}

// wrong is a command that is not valid, with the error of Check.
type wrong struct {
	c api.Cmd
	e api.Errno
}

func wrongs() []wrong {
	l := []wrong{
		{api.Cmd{Chain: 1}, api.ErrForm}, {api.Cmd{Chain: -1}, api.ErrForm}, {api.Cmd{Epoch: 1}, api.ErrForm}, {api.Cmd{Node: 1}, api.ErrForm},
		{api.Cmd{Node: math.MinInt}, api.ErrForm}, {api.Cmd{Chain: 1, Epoch: 20, Node: 3}, api.ErrForm},
	}
	for _, kind := range []int{-1, 5, 6, 255, 256, 257, 1<<32 + 1, math.MinInt, math.MinInt + 1, math.MaxInt} {
		l = append(l, wrong{api.Cmd{Kind: kind}, api.ErrArg}, wrong{api.Cmd{Kind: kind, Chain: 1, Epoch: 1, Node: 1}, api.ErrArg}, wrong{api.Cmd{Kind: kind, Chain: -1, Node: 99}, api.ErrArg}, wrong{api.Cmd{Kind: kind, Chain: 99, Epoch: 1, Node: -1}, api.ErrArg})
	}
	for kind := api.Remove; kind <= api.Settle; kind++ {
		l = append(l, wrong{api.Cmd{Kind: kind}, api.ErrForm}, wrong{api.Cmd{Kind: kind, Chain: 1, Node: 1}, api.ErrForm})
		for _, chain := range []int{-1, 4, 5, 255, 256, 257, 1 << 32, math.MinInt, math.MaxInt} {
			l = append(l, wrong{api.Cmd{Kind: kind, Chain: chain, Epoch: 1, Node: 1}, api.ErrForm})
		}
		for _, node := range []int{-1, 0, 25, 101, 201, 256, 257, 1<<32 + 1, math.MinInt, math.MinInt + 1, math.MaxInt} {
			l = append(l, wrong{api.Cmd{Kind: kind, Chain: 1, Epoch: 1, Node: node}, api.ErrForm})
		}
	}
	return l
}

// P8.1: which commands are valid.
func TestCheck(t *testing.T) {
	for _, s := range samples() {
		if e := cmds.Check(s.c); e != api.OK {
			t.Error(s.c, "is", int(e))
		}
	}
	for _, w := range wrongs() {
		if e := cmds.Check(w.c); e != w.e {
			t.Error(w.c, "is", int(e), "want", int(w.e))
		}
	}
}

// P8.1: a command's bytes.
func TestEncode(t *testing.T) {
	for _, s := range samples() {
		if b, e := cmds.Encode(s.c); !bytes.Equal(b, s.bytes) || e != api.OK {
			t.Error(s.c, "is", b, int(e))
		}
	}
	for _, w := range wrongs() {
		if b, e := cmds.Encode(w.c); len(b) != 0 || e != w.e {
			t.Error(w.c, "is", b, int(e), "want", int(w.e))
		}
	}
}

// P8.1: the bytes come behind what was put before; a command that is not valid puts nothing, and harms nothing.
func TestPut(t *testing.T) {
	o := fix.New(100)
	o.Put(7, 2)
	want := []byte{0, 7}
	for _, s := range samples() {
		if e := cmds.Put(o, s.c); e != api.OK {
			t.Error(s.c, "is", int(e))
		}
		want = append(want, s.bytes...)
		for _, w := range wrongs() {
			if e := cmds.Put(o, w.c); e != w.e {
				t.Error(w.c, "is", int(e), "want", int(w.e))
			}
		}
		if b, e := o.Done(); !bytes.Equal(b, want) || e != api.OK {
			t.Error("behind", s.c, "there is", b, int(e))
		}
	}
}

// P8.1: an Out that is nil, full or wrong keeps its error, and Put says only whether the command is valid.
func TestPutWhereNothingCanBePut(t *testing.T) {
	c := samples()[1].c
	bad := api.Cmd{Kind: 5}
	if e := cmds.Put(nil, c); e != api.OK {
		t.Error("into nil", int(e))
	}
	if e := cmds.Put(nil, bad); e != api.ErrArg {
		t.Error("a wrong one into nil", int(e))
	}
	for most := range 12 {
		o := fix.New(most)
		if e := cmds.Put(o, bad); e != api.ErrArg {
			t.Error("a wrong one", int(e))
		}
		if e := cmds.Put(o, c); e != api.OK {
			t.Error("among", most, int(e))
		}
		full := api.ErrLong
		if most == 11 {
			full = api.OK
		}
		if _, e := o.Done(); e != full {
			t.Error("among", most, "the error is", int(e))
		}
	}
	o := fix.New(50)
	o.Put(1, 9)
	if e := cmds.Put(o, c); e != api.OK {
		t.Error("behind an error", int(e))
	}
	if b, e := o.Done(); len(b) != 0 || e != api.ErrArg {
		t.Error("behind an error", b, int(e))
	}
}

// P8.1: commands are read one after the other, and what follows them remains.
func TestGet(t *testing.T) {
	var b []byte
	for _, s := range samples() {
		b = append(b, s.bytes...)
	}
	i := fix.Of(append(b, 9))
	for _, s := range samples() {
		if c, e := cmds.Get(i); c != s.c || e != api.OK {
			t.Error(c, int(e), "want", s.c)
		}
	}
	if i.Left() != 1 || i.Get(1) != 9 || i.Err() != api.OK {
		t.Error("what follows")
	}
}

// P8.1: of what is no valid command eleven bytes are read, too, and reading may go on.
func TestGetOfWrongBytes(t *testing.T) {
	for _, b := range wrongBytes() {
		i := fix.Of(append(slices.Clone(b), 42, 43))
		if c, e := cmds.Get(i); c != (api.Cmd{}) || e != api.ErrForm {
			t.Error(b, "is", c, int(e))
		}
		if i.Left() != 2 || i.Err() != api.OK || i.Get(1) != 42 {
			t.Error("behind", b, "there are", i.Left(), int(i.Err()))
		}
	}
}

// wrongBytes are eleven bytes each that are no valid command's.
func wrongBytes() [][]byte {
	var l [][]byte
	change := func(b []byte, at int, to byte) {
		x := slices.Clone(b)
		x[at] = to
		l = append(l, x)
	}
	noop := make([]byte, 11)
	for at := range noop {
		change(noop, at, 1)
		change(noop, at, 255)
	}
	for kind := byte(1); kind <= 4; kind++ {
		good := []byte{kind, 2, 0, 0, 0, 0, 0, 0, 0, 1, 5}
		for _, to := range []byte{0, 5, 6, 128, 255} {
			change(good, 0, to)
		}
		for _, to := range []byte{4, 5, 128, 255} {
			change(good, 1, to)
		}
		change(good, 9, 0)
		for _, to := range []byte{0, 25, 26, 101, 255} {
			change(good, 10, to)
		}
	}
	return l
}

// P8.1: the error of the In is first: ErrNil, ErrShort, or an earlier one.
func TestGetErrors(t *testing.T) {
	if c, e := cmds.Get(nil); c != (api.Cmd{}) || e != api.ErrNil {
		t.Error("of nil", c, int(e))
	}
	for _, b := range [][]byte{samples()[1].bytes, samples()[0].bytes, {9, 9, 9, 9, 9, 9, 9, 9, 9, 9, 9}} {
		for n := range 11 {
			i := fix.Of(b[:n])
			if c, e := cmds.Get(i); c != (api.Cmd{}) || e != api.ErrShort || i.Left() != 0 || i.Err() != api.ErrShort {
				t.Error("of", n, "bytes", c, int(e), i.Left(), int(i.Err()))
			}
		}
	}
	i := fix.Of(make([]byte, 30))
	i.Get(0)
	if c, e := cmds.Get(i); c != (api.Cmd{}) || e != api.ErrArg || i.Err() != api.ErrArg {
		t.Error("behind an error", c, int(e))
	}
}

// P8.1: eleven bytes of a valid command, and nothing behind them.
func TestDecode(t *testing.T) {
	for _, s := range samples() {
		was := slices.Clone(s.bytes)
		if c, e := cmds.Decode(s.bytes); c != s.c || e != api.OK || !bytes.Equal(s.bytes, was) {
			t.Error(s.bytes, "is", c, int(e))
		}
		for n := range 11 {
			if c, e := cmds.Decode(s.bytes[:n]); c != (api.Cmd{}) || e != api.ErrShort {
				t.Error(s.bytes[:n], "is", c, int(e))
			}
		}
		for _, more := range [][]byte{{0}, s.bytes, make([]byte, 100)} {
			if c, e := cmds.Decode(append(slices.Clone(s.bytes), more...)); c != (api.Cmd{}) || e != api.ErrForm {
				t.Error(s.bytes, "and", len(more), "more is", c, int(e))
			}
		}
	}
	for _, b := range wrongBytes() {
		if c, e := cmds.Decode(b); c != (api.Cmd{}) || e != api.ErrForm {
			t.Error(b, "is", c, int(e))
		}
		if c, e := cmds.Decode(append(b, 0)); c != (api.Cmd{}) || e != api.ErrForm {
			t.Error(b, "and one more is", c, int(e))
		}
	}
	if c, e := cmds.Decode(nil); c != (api.Cmd{}) || e != api.ErrShort {
		t.Error("nothing is", c, int(e))
	}
}

// P8.2: the kinds' names.
func TestName(t *testing.T) {
	for kind, want := range map[int]string{
		api.Noop: "noop", api.Remove: "remove", api.Append: "append", api.Promote: "promote", api.Settle: "settle",
		-1: "", 5: "", 6: "", 256: "", 1 << 32: "", math.MinInt: "", math.MaxInt: "",
	} {
		if got := cmds.Name(kind); got != want {
			t.Error(kind, "is", got)
		}
	}
}

// P8.2: a command's text; the document's example is the second one.
func TestText(t *testing.T) {
	for _, s := range samples() {
		if got, e := cmds.Text(s.c); got != s.text || e != api.OK {
			t.Error(s.c, "is", got, int(e))
		}
	}
	for _, w := range wrongs() {
		if got, e := cmds.Text(w.c); got != "" || e != w.e {
			t.Error(w.c, "is", got, int(e), "want", int(w.e))
		}
	}
}

// P8.2: what is the text of a valid command.
func TestParse(t *testing.T) {
	for _, s := range samples() {
		if c, e := cmds.Parse(s.text); c != s.c || e != api.OK {
			t.Error(s.text, "is", c, int(e))
		}
	}
	for _, s := range []string{
		"", " ", "noop ", " noop", "Noop", "noo", "noops", "noop 0 0 0", "noop 1 20 3", "noop\n", "noop noop", "noop    ",
		"remove", "remove 1", "remove 1 20", "remove 1 20 3 4", "remove 1 20 3 ", " remove 1 20 3", "remove  1 20 3", "remove 1  20 3", "remove 1 20  3",
		"remove\t1 20 3", "remove 1 20 3\n", "remove 1,20,3", "Remove 1 20 3", "rem 1 20 3", "removes 1 20 3", "delete 1 20 3", "1 1 20 3", "1 20 3", " 1 20 3",
		"remove 01 20 3", "remove 1 020 3", "remove 1 20 03", "remove +1 20 3", "remove 1 +20 3", "remove 1 20 +3", "remove -1 20 3", "remove -0 20 3",
		"remove 4 20 3", "remove 1 0 3", "remove 1 20 0", "remove 1 20 25", "remove 00 20 3", "remove x 20 3", "remove 1 x 3", "remove 1 20 x", "remove  20 3", "remove 1  3", "remove 1 20 ",
		"remove 1 18446744073709551616 3", "remove 1 99999999999999999999 3", "remove 1 018446744073709551615 3", "remove 1 118446744073709551615 3",
		"remove 18446744073709551617 20 3", "remove 1 20 18446744073709551619", "remove 4294967297 20 3", "remove 1 20 4294967299", "remove 257 20 3", "remove 1 20 259",
		"remove 1 2_0 3", "remove 1 0x14 3", "remove 1 20. 3", "remove 1 2e1 3", "remove 1 ٢ 3", "remove 1 20\x00 3", "remove 1 20 3\xff",
		strings.Repeat(" ", 1000), strings.Repeat("remove 1 20 3 ", 1000), "remove 1 " + strings.Repeat("1", 100000) + " 3",
	} {
		if c, e := cmds.Parse(s); c != (api.Cmd{}) || e != api.ErrForm {
			t.Errorf("%q is %v, error %d", s, c, int(e))
		}
	}
}

// P8.2: digits and nothing else, at most 20 of them, of a number that is at most most.
func TestNumber(t *testing.T) {
	for _, c := range []struct {
		s    string
		most uint64
		want uint64
		e    api.Errno
	}{
		{"0", 0, 0, api.OK}, {"0", 9, 0, api.OK}, {"7", 7, 7, api.OK}, {"8", 7, 0, api.ErrLong}, {"1", 0, 0, api.ErrLong}, {"10", 10, 10, api.OK}, {"90", 89, 0, api.ErrLong},
		{"1234567890", math.MaxUint64, 1234567890, api.OK}, {"9", math.MaxUint64, 9, api.OK},
		{"18446744073709551615", math.MaxUint64, math.MaxUint64, api.OK}, {"18446744073709551615", math.MaxUint64 - 1, 0, api.ErrLong}, {"18446744073709551614", math.MaxUint64 - 1, math.MaxUint64 - 1, api.OK},
		{"18446744073709551616", math.MaxUint64, 0, api.ErrLong}, {"18446744073709551617", 1, 0, api.ErrLong}, {"99999999999999999999", math.MaxUint64, 0, api.ErrLong}, {"20000000000000000000", 0, 0, api.ErrLong},
		{"100000000000000000000", math.MaxUint64, 0, api.ErrForm}, {"999999999999999999999", 0, 0, api.ErrForm}, {strings.Repeat("1", 5000), math.MaxUint64, 0, api.ErrForm},
		{"", math.MaxUint64, 0, api.ErrForm}, {"", 0, 0, api.ErrForm}, {"00", 9, 0, api.ErrForm}, {"01", 9, 0, api.ErrForm}, {"007", 0, 0, api.ErrForm}, {strings.Repeat("0", 20), 9, 0, api.ErrForm},
		{"-1", 9, 0, api.ErrForm}, {"-0", 9, 0, api.ErrForm}, {"+1", 9, 0, api.ErrForm}, {"1 ", 9, 0, api.ErrForm}, {" 1", 9, 0, api.ErrForm}, {"1\n", 9, 0, api.ErrForm}, {"1_0", 99, 0, api.ErrForm}, {"0x1", 9, 0, api.ErrForm},
		{"1.", 9, 0, api.ErrForm}, {"1e1", 99, 0, api.ErrForm}, {"x", 9, 0, api.ErrForm}, {"9x", 1, 0, api.ErrForm}, {"/", 9, 0, api.ErrForm}, {":", 99, 0, api.ErrForm}, {"1:", 99, 0, api.ErrForm}, {"1/", 99, 0, api.ErrForm},
		{"٣", 9, 0, api.ErrForm}, {"3٣", 99, 0, api.ErrForm}, {"\x00", 9, 0, api.ErrForm}, {"1\xff", 9, 0, api.ErrForm}, {"\xb1", 9, 0, api.ErrForm},
	} {
		if got, e := cmds.Number(c.s, c.most); got != c.want || e != c.e {
			t.Errorf("%.30q of at most %d is %d, error %d; want %d, %d", c.s, c.most, got, int(e), c.want, int(c.e))
		}
	}
}

// P8.2: numbers of any size and any bound.
func TestNumberOfMany(t *testing.T) {
	random := rand.New(rand.NewSource(82))
	for range 20000 {
		n, most := random.Uint64()>>random.Intn(64), random.Uint64()>>random.Intn(64)
		if random.Intn(4) == 0 {
			most = n - 1 + uint64(random.Intn(3))
		}
		want, long := n, api.OK
		if n > most {
			want, long = 0, api.ErrLong
		}
		if got, e := cmds.Number(strconv.FormatUint(n, 10), most); got != want || e != long {
			t.Fatal(n, "of at most", most, "is", got, int(e))
		}
	}
}

// P8.3: each valid command comes back from its bytes and its text, and no two have the same.
func TestEncodingsComeBack(t *testing.T) {
	seen := map[string]bool{}
	for _, epoch := range []uint64{1, 2, 9, 10, 255, 256, 1 << 32, 1 << 63, math.MaxUint64} {
		for kind := api.Remove; kind <= api.Settle; kind++ {
			for chain := range api.MaxChains {
				for node := 1; node <= api.MaxNodes; node++ {
					c := api.Cmd{Kind: kind, Chain: chain, Epoch: epoch, Node: node}
					b, wrongBytes := cmds.Encode(c)
					s, wrongText := cmds.Text(c)
					if wrongBytes != api.OK || wrongText != api.OK || len(b) != 11 || seen[s] || seen[string(b)] {
						t.Fatal(c, "is", b, s)
					}
					seen[s], seen[string(b)] = true, true
					if got, e := cmds.Decode(b); got != c || e != api.OK {
						t.Fatal(c, "is decoded as", got, int(e))
					}
					if got, e := cmds.Parse(s); got != c || e != api.OK {
						t.Fatal(c, "is parsed as", got, int(e))
					}
				}
			}
		}
	}
}

// P8.3: bytes that are decoded are those of their command, whatever was changed in them.
func TestDecodedHasNoOtherBytes(t *testing.T) {
	random := rand.New(rand.NewSource(83))
	decoded := 0
	for range 50000 {
		b := slices.Clone(samples()[random.Intn(6)].bytes)
		for range random.Intn(3) {
			b[random.Intn(len(b))] = byte(random.Intn(30))
		}
		if c, e := cmds.Decode(b); e == api.OK {
			decoded++
			if back, e := cmds.Encode(c); !bytes.Equal(back, b) || e != api.OK {
				t.Fatal(b, "is", c, "which is", back, int(e))
			}
		} else if e != api.ErrForm || c != (api.Cmd{}) {
			t.Fatal(b, "is", c, int(e))
		}
	}
	if decoded < 10000 {
		t.Error("decoded", decoded)
	}
}

// P8.3: a text that is parsed is that of its command, whatever was changed in it.
func TestParsedHasNoOtherText(t *testing.T) {
	random := rand.New(rand.NewSource(84))
	const put = "0123456789 +-\nremovappndstl"
	parsed := 0
	for range 50000 {
		s := samples()[random.Intn(6)].text
		for range random.Intn(3) {
			at, x := random.Intn(len(s)), random.Intn(len(put))
			s = s[:at] + put[x:x+random.Intn(2)] + s[at+random.Intn(2):]
		}
		if c, e := cmds.Parse(s); e == api.OK {
			parsed++
			if back, e := cmds.Text(c); back != s || e != api.OK {
				t.Fatalf("%q is %v, which is %q, error %d", s, c, back, int(e))
			}
		} else if e != api.ErrForm || c != (api.Cmd{}) {
			t.Fatalf("%q is %v, error %d", s, c, int(e))
		}
	}
	if parsed < 10000 {
		t.Error("parsed", parsed)
	}
}

// Rule 5: bytes that were encoded are new memory each time.
func TestBytesAreNew(t *testing.T) {
	for _, s := range samples() {
		b, _ := cmds.Encode(s.c)
		b[0] = 77
		if again, _ := cmds.Encode(s.c); !bytes.Equal(again, s.bytes) {
			t.Error(s.c, "is", again)
		}
	}
}
