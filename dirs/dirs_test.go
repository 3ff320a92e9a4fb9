package dirs_test

import (
	"bytes"
	"math"
	"math/rand"
	"slices"
	"strconv"
	"strings"
	"testing"

	"catenary/api"
	"catenary/dirs"
)

const (
	most     = 32  // entries of a directory
	maxBytes = 512 // of a directory
	lastNode = 65535
	alphabet = "-.0123456789_abcdefghijklmnopqrstuvwxyz" // of names, in the order of bytes
)

func at(name string, node int) dirs.Entry {
	return dirs.Entry{Name: name, Node: node}
}

// goodNames are names at the edges of what is one, in their order.
var goodNames = []string{"-", "--", "-.-", ".-", "...", "....", "...........", "..a", ".a", "0", "00000000000", "9", "_", "a", "a.", "a..", "a.b", "aa", "abcdefghijk", "b", "z", "zzzzzzzzzzz"}

// noNames are texts that are no names.
func noNames() []string {
	l := []string{"", ".", "..", "/", "/a", "a/", "a/b", "A", "Z", "aB", "a b", " a", "a ", "a\x00", "\x00", "a\n", "abcdefghijkl", "............", "zzzzzzzzzzzz", strings.Repeat("a", 256), strings.Repeat("a", 257)}
	l = append(l, "é", "aé", "ａ", "\xff", "a\xff", "\xe1b", "a\xc3", "\xef\xbf\xbd", "ı", "ſ", "\u0661", "š", "𝐚") // the last ones have a name's letters if cut to fewer bits, or folded
	return l
}

// noNodes are numbers that no inode has; some of them are one's, if cut to fewer bits.
var noNodes = []int{0, -1, -65535, lastNode + 1, lastNode + 2, 1 << 17, 1 << 32, 1<<32 + 1, math.MinInt, math.MinInt + 1, math.MaxInt}

// isName says by each byte whether s is a name.
func isName(s string) bool {
	if len(s) == 0 || len(s) > 11 || s == "." || s == ".." {
		return false
	}
	for k := 0; k < len(s); k++ {
		if !strings.Contains(alphabet, s[k:k+1]) {
			return false
		}
	}
	return true
}

// entryBytes returns what an entry's bytes are, one by one.
func entryBytes(x dirs.Entry) []byte {
	b := make([]byte, 16)
	b[0] = byte(len(x.Name))
	for k := 0; k < len(x.Name); k++ {
		b[1+k] = x.Name[k]
	}
	b[14], b[15] = byte(x.Node/256), byte(x.Node%256)
	return b
}

func bytesOf(l []dirs.Entry) []byte {
	var b []byte
	for _, x := range l {
		b = append(b, entryBytes(x)...)
	}
	return b
}

// numbered returns n entries with names in order.
func numbered(n int) []dirs.Entry {
	var l []dirs.Entry
	for k := range n {
		l = append(l, at("n"+strconv.Itoa(1000+k), 1+k))
	}
	return l
}

func randomName(r *rand.Rand) string {
	for {
		b := make([]byte, 1+r.Intn(11))
		for k := range b {
			b[k] = alphabet[r.Intn(len(alphabet))]
		}
		if isName(string(b)) {
			return string(b)
		}
	}
}

// random returns valid entries, n of them or fewer.
func random(r *rand.Rand, n int) []dirs.Entry {
	nodes := map[string]int{}
	for range n {
		nodes[randomName(r)] = 1 + r.Intn(lastNode)
	}
	var l []dirs.Entry
	for name, node := range nodes {
		l = append(l, at(name, node))
	}
	slices.SortFunc(l, func(x, y dirs.Entry) int { return strings.Compare(x.Name, y.Name) })
	return l
}

// right are valid entries at the edges.
func right() [][]dirs.Entry {
	var all []dirs.Entry
	for k, name := range goodNames {
		all = append(all, at(name, k+1))
	}
	return [][]dirs.Entry{
		nil, {}, {at("a", 1)}, {at("a", lastNode)}, {at("...........", 256)}, {at("a", 7), at("b", 7)}, // a Node may occur twice
		{at("-", 9), at(".a", 8), at("0", 7), at("_", 6), at("z", 5)}, {at("a", 1), at("a.", 2), at("aa", 3), at("b", 4)},
		all, numbered(most - 1), numbered(most),
	}
}

// fault is entries that are not valid, and what is wrong.
type fault struct {
	l    []dirs.Entry
	want api.Errno
}

func wrong() []fault {
	l := []fault{
		{[]dirs.Entry{at("a", 1), at("a", 2)}, api.ErrForm}, {[]dirs.Entry{at("a", 1), at("a", 1)}, api.ErrForm},
		{[]dirs.Entry{at("b", 1), at("a", 2)}, api.ErrForm}, {[]dirs.Entry{at("aa", 1), at("a", 2)}, api.ErrForm}, {[]dirs.Entry{at("a", 1), at("_", 2)}, api.ErrForm},
		{[]dirs.Entry{at("a", 1), at("9", 2)}, api.ErrForm}, {[]dirs.Entry{at("9", 1), at("10", 2)}, api.ErrForm}, {[]dirs.Entry{at("a", 1), at("c", 2), at("b", 3)}, api.ErrForm}, {[]dirs.Entry{at("a", 1), at("c", 2), at("a", 3)}, api.ErrForm},
		{[]dirs.Entry{at("", 0)}, api.ErrName}, {[]dirs.Entry{at("A", 0)}, api.ErrName}, // the name ahead of the Node
		{[]dirs.Entry{at("a", 1), at("a", 0), at("A", 1)}, api.ErrForm}, {[]dirs.Entry{at("a", 1), at("A", 1), at("a", 0)}, api.ErrName}, // the first entry's first
		{[]dirs.Entry{at("b", 1), at("a", 1), at("", 1)}, api.ErrForm}, {[]dirs.Entry{at("b", 1), at("", 1), at("a", 1)}, api.ErrName}, {[]dirs.Entry{at("b", 1), at("A", 1)}, api.ErrName},
		{numbered(most + 1), api.ErrBig}, {numbered(most + 2), api.ErrBig}, {numbered(1000), api.ErrBig}, {make([]dirs.Entry, most+1), api.ErrBig}, {make([]dirs.Entry, most), api.ErrName}, {make([]dirs.Entry, 1<<16), api.ErrBig},
	}
	for _, name := range noNames() {
		l = append(l, fault{[]dirs.Entry{at(name, 1)}, api.ErrName}, fault{[]dirs.Entry{at("-", 1), at(name, 1), at("z", 1)}, api.ErrName}, fault{[]dirs.Entry{at(name, 0)}, api.ErrName})
	}
	for _, node := range noNodes {
		l = append(l, fault{[]dirs.Entry{at("a", node)}, api.ErrForm}, fault{[]dirs.Entry{at("a", 1), at("b", node), at("C", 1)}, api.ErrForm}, fault{append(numbered(most), at("z", node)), api.ErrBig})
	}
	return l
}

// P29.1: an entry has sixteen bytes.
func TestSize(t *testing.T) {
	if dirs.Size != 16 || most*dirs.Size != api.MaxFile*api.Block {
		t.Error(dirs.Size)
	}
}

// P29.1: 1 to 11 bytes of those that names have, but neither . nor ..
func TestName(t *testing.T) {
	for _, s := range goodNames {
		if !dirs.Name(s) {
			t.Errorf("%q is no name", s)
		}
	}
	for _, s := range noNames() {
		if dirs.Name(s) {
			t.Errorf("%q is a name", s)
		}
	}
	for n := range 20 {
		if got := dirs.Name(strings.Repeat("x", n)); got != (n >= 1 && n <= 11) {
			t.Error(n, "bytes are", got)
		}
		if got := dirs.Name(strings.Repeat(".", n)); got != (n >= 3 && n <= 11) {
			t.Error(n, "dots are", got)
		}
	}
}

// P29.1: which bytes a name has, wherever they stand.
func TestNameBytes(t *testing.T) {
	for c := range 256 {
		one := string([]byte{byte(c)})
		in := strings.Contains(alphabet, one)
		for _, s := range []string{one + "a", "a" + one, "ab" + one + "cd", "abcdefghij" + one, one + "bcdefghijk"} {
			if dirs.Name(s) != in {
				t.Errorf("%q is %t", s, !in)
			}
		}
		if dirs.Name(one) != (in && c != '.') {
			t.Errorf("%q", one)
		}
	}
	for c := rune(128); c < 0x3000; c++ {
		if dirs.Name(string(c)) || dirs.Name("a"+string(c)) {
			t.Errorf("%q is in a name", c)
		}
	}
}

// P29.1: which entries are valid.
func TestCheck(t *testing.T) {
	for _, l := range right() {
		if e := dirs.Check(l); e != api.OK {
			t.Error(l, "is", int(e))
		}
	}
	for _, f := range wrong() {
		if e := dirs.Check(f.l); e != f.want {
			t.Error(f.l, "is", int(e), "want", int(f.want))
		}
	}
	r := rand.New(rand.NewSource(291))
	for range 500 {
		l := random(r, 1+r.Intn(most))
		if e := dirs.Check(l); e != api.OK {
			t.Fatal(l, "is", int(e))
		}
		k := r.Intn(len(l))
		if twice := slices.Insert(slices.Clone(l), k, l[k]); len(twice) <= most && dirs.Check(twice) != api.ErrForm {
			t.Fatal(twice)
		}
	}
}

// P29.1: the length of the name, the name, zero bytes, and the Node.
func TestPut(t *testing.T) {
	b, e := dirs.Put([]dirs.Entry{at("ab", 258), at("abcdefghijk", 65535)})
	want := []byte{2, 'a', 'b', 0, 0, 0, 0, 0, 0, 0, 0, 0, 0, 0, 1, 2, 11, 'a', 'b', 'c', 'd', 'e', 'f', 'g', 'h', 'i', 'j', 'k', 0, 0, 255, 255}
	if e != api.OK || !bytes.Equal(b, want) {
		t.Error(b, int(e), "want", want)
	}
	for _, l := range right() {
		was := slices.Clone(l)
		if b, e := dirs.Put(l); e != api.OK || !bytes.Equal(b, bytesOf(l)) {
			t.Error(l, "is", b, int(e))
		}
		if !slices.Equal(l, was) {
			t.Error("the entries were changed", l)
		}
	}
	for _, f := range wrong() {
		if b, e := dirs.Put(f.l); e != f.want || len(b) != 0 {
			t.Error(f.l, "is", b, int(e), "want", int(f.want))
		}
	}
}

// P29.1: the entries of which these are the bytes.
func TestGet(t *testing.T) {
	for _, l := range right() {
		b := bytesOf(l)
		if got, e := dirs.Get(b); e != api.OK || !slices.Equal(got, l) {
			t.Error(b, "is", got, int(e), "want", l)
		}
		if !bytes.Equal(b, bytesOf(l)) {
			t.Error("the bytes were changed", b)
		}
	}
	b := entryBytes(at("abc", 7))
	got, _ := dirs.Get(b)
	clear(b)
	if !slices.Equal(got, []dirs.Entry{at("abc", 7)}) {
		t.Error("the bytes were kept", got)
	}
}

func mustNotGet(t *testing.T, b []byte, want api.Errno) {
	t.Helper()
	if l, e := dirs.Get(b); e != want || len(l) != 0 {
		t.Errorf("%v (%d) is %v, %d; want %d", b, len(b), l, int(e), int(want))
	}
}

// P29.1: ErrBig of too many bytes, then ErrShort of a part of an entry.
func TestGetLengths(t *testing.T) {
	all := bytesOf(numbered(60))
	for n := 0; n <= maxBytes; n++ {
		if n%16 == 0 {
			if l, e := dirs.Get(all[:n]); e != api.OK || !slices.Equal(l, numbered(n/16)) {
				t.Error(n, "bytes are", l, int(e))
			}
			continue
		}
		mustNotGet(t, all[:n], api.ErrShort)
		mustNotGet(t, make([]byte, n), api.ErrShort)
	}
	for _, n := range []int{513, 514, 527, 528, 529, 800, 960} {
		mustNotGet(t, all[:n], api.ErrBig)
		mustNotGet(t, make([]byte, n), api.ErrBig)
	}
	mustNotGet(t, make([]byte, 1<<16), api.ErrBig)
	mustNotGet(t, make([]byte, 1<<16+1), api.ErrBig)
}

// P29.1: ErrForm of all other bytes.
func TestGetForm(t *testing.T) {
	for _, f := range wrong() {
		fit := !slices.ContainsFunc(f.l, func(x dirs.Entry) bool {
			return len(x.Name) > 11 || x.Node < 0 || x.Node > lastNode
		})
		if fit && len(f.l) <= most {
			mustNotGet(t, bytesOf(f.l), api.ErrForm)
		}
	}
	for _, n := range []int{16, 32, 64, 512} {
		mustNotGet(t, make([]byte, n), api.ErrForm)
		mustNotGet(t, bytes.Repeat([]byte{255}, n), api.ErrForm)
	}
	one := entryBytes(at("abc", 7))
	set := func(k int, to byte) []byte {
		b := slices.Clone(one)
		b[k] = to
		return b
	}
	for k := 4; k < 12; k++ { // behind the name there are zero bytes
		for _, to := range []byte{1, 'a', '.', 255} {
			mustNotGet(t, set(k, to), api.ErrForm)
			mustNotGet(t, slices.Concat(entryBytes(at("a", 1)), set(k, to)), api.ErrForm)
			mustNotGet(t, slices.Concat(set(k, to), entryBytes(at("b", 1))), api.ErrForm)
		}
	}
	for to := range 256 { // a length that is not that of the name
		if to != 3 {
			mustNotGet(t, set(0, byte(to)), api.ErrForm)
		}
	}
	for k := 12; k < 14; k++ { // a Node above 65535
		mustNotGet(t, set(k, 1), api.ErrForm)
		mustNotGet(t, set(k, 128), api.ErrForm)
	}
	mustNotGet(t, set(15, 0), api.ErrForm)
	for k := 1; k < 4; k++ {
		for _, to := range []byte{0, 'A', '/', ' ', 255, 0x80} {
			mustNotGet(t, set(k, to), api.ErrForm)
		}
	}
}

// P29.2: the Node of the first entry with that name, whatever the entries are.
func TestFind(t *testing.T) {
	check := func(l []dirs.Entry, name string, want int, there bool) {
		t.Helper()
		if n, ok := dirs.Find(l, name); n != want || ok != there {
			t.Errorf("%q in %v is %d, %t; want %d, %t", name, l, n, ok, want, there)
		}
	}
	for _, l := range right() {
		for _, x := range l {
			check(l, x.Name, x.Node, true)
			check(l, x.Name+"~", 0, false)
		}
		for _, name := range noNames() {
			check(l, name, 0, false)
		}
	}
	l := []dirs.Entry{at("b", 1), at("a", 2), at("b", 3), at("", 4), at("A/", -5), at("..", 0), at("a", 6)}
	check(l, "b", 1, true)
	check(l, "a", 2, true)
	check(l, "", 4, true)
	check(l, "A/", -5, true)
	check(l, "..", 0, true)
	check(l, "c", 0, false)
	check(l, "A", 0, false)
	check(nil, "", 0, false)
	long := numbered(5000)
	check(long, "n5999", 5000, true)
	check(long, "n6000", 0, false)
}

// P29.2: an entry at its place; nothing else changes.
func TestAdd(t *testing.T) {
	r := rand.New(rand.NewSource(292))
	for range 1000 {
		all := random(r, 1+r.Intn(most))
		k := r.Intn(len(all))
		less := slices.Delete(slices.Clone(all), k, k+1)
		was := slices.Clone(less)
		if got, e := dirs.Add(less, all[k]); e != api.OK || !slices.Equal(got, all) {
			t.Fatal(less, "with", all[k], "is", got, int(e))
		}
		if !slices.Equal(less, was) {
			t.Fatal("the entries were changed", less)
		}
	}
	all := numbered(most)
	for k := range all {
		if got, e := dirs.Add(slices.Delete(slices.Clone(all), k, k+1), all[k]); e != api.OK || !slices.Equal(got, all) {
			t.Error(k, "is", got, int(e))
		}
	}
	for _, x := range []dirs.Entry{at("a", 1), at("...", lastNode), at("abcdefghijk", 300)} {
		if got, e := dirs.Add(nil, x); e != api.OK || !slices.Equal(got, []dirs.Entry{x}) {
			t.Error(x, "is", got, int(e))
		}
	}
}

// P29.2: the error of Check; then ErrName, ErrForm, ErrThere and ErrBig.
func TestAddErrors(t *testing.T) {
	check := func(l []dirs.Entry, x dirs.Entry, want api.Errno) {
		t.Helper()
		if got, e := dirs.Add(l, x); e != want || len(got) != 0 {
			t.Error(l, "with", x, "is", got, int(e), "want", int(want))
		}
	}
	for _, f := range wrong() {
		for _, x := range []dirs.Entry{at("y", 1), at("a", 1), at("A", 1), at("y", 0), at("", 0)} {
			check(f.l, x, f.want)
		}
	}
	for _, l := range right() {
		for _, name := range noNames() {
			check(l, at(name, 1), api.ErrName)
			check(l, at(name, 0), api.ErrName)
		}
		for _, node := range noNodes {
			check(l, at("y", node), api.ErrForm)
		}
		for _, x := range l {
			check(l, x, api.ErrThere)
			check(l, at(x.Name, 40000), api.ErrThere)
			check(l, at(x.Name, 0), api.ErrForm)
		}
	}
	full := numbered(most)
	for _, name := range []string{"a", "n1000-", "n10", "n1016a", "z"} {
		check(full, at(name, 1), api.ErrBig)
		check(full, at(name, 0), api.ErrForm)
	}
	check(full, at("..", 1), api.ErrName)
}

// P29.2: all entries but one.
func TestRemove(t *testing.T) {
	for _, l := range right() {
		for k, x := range l {
			was := slices.Clone(l)
			want := slices.Delete(slices.Clone(l), k, k+1)
			if got, e := dirs.Remove(l, x.Name); e != api.OK || !slices.Equal(got, want) {
				t.Error(l, "without", x.Name, "is", got, int(e))
			}
			if !slices.Equal(l, was) {
				t.Error("the entries were changed", l)
			}
		}
	}
}

// P29.2: the error of Check; then ErrNoEnt.
func TestRemoveErrors(t *testing.T) {
	check := func(l []dirs.Entry, name string, want api.Errno) {
		t.Helper()
		if got, e := dirs.Remove(l, name); e != want || len(got) != 0 {
			t.Errorf("%v without %q is %v, %d; want %d", l, name, got, int(e), int(want))
		}
	}
	for _, f := range wrong() {
		for _, name := range []string{"a", "b", "n1000", "y", "", "A"} {
			check(f.l, name, f.want)
		}
	}
	for _, l := range right() {
		for _, name := range append(noNames(), "y", "n999", "n10000", "n1032", "aaa") {
			check(l, name, api.ErrNoEnt)
		}
	}
}

// P29.2: the names in the order of the entries, whatever these are.
func TestNames(t *testing.T) {
	for _, c := range []struct {
		l    []dirs.Entry
		want []string
	}{
		{nil, nil}, {[]dirs.Entry{}, nil}, {[]dirs.Entry{at("a", 1)}, []string{"a"}},
		{[]dirs.Entry{at("a", 9), at("a.", 2), at("b", 5)}, []string{"a", "a.", "b"}},
		{[]dirs.Entry{at("b", 0), at("a", -1), at("b", 2), at("", 4), at("A/", 5)}, []string{"b", "a", "b", "", "A/"}},
	} {
		if got := dirs.Names(c.l); !slices.Equal(got, c.want) {
			t.Error(c.l, "has", got)
		}
	}
	if got := dirs.Names(numbered(3000)); len(got) != 3000 || got[0] != "n1000" || got[2999] != "n3999" {
		t.Error(len(got))
	}
}

// P29.4: what is put is got; what has been got is put as the same bytes.
func TestPutAndGet(t *testing.T) {
	r := rand.New(rand.NewSource(294))
	for range 1000 {
		l := random(r, r.Intn(most+1))
		b, e := dirs.Put(l)
		if e != api.OK || len(b) != dirs.Size*len(l) {
			t.Fatal(l, "is", b, int(e))
		}
		if got, e := dirs.Get(b); e != api.OK || !slices.Equal(got, l) {
			t.Fatal(l, "is got as", got, int(e))
		}
	}
	for range 100000 { // one bit or one byte of valid ones changed: what is got has these bytes
		b := bytesOf(random(r, 1+r.Intn(3)))
		k := r.Intn(len(b))
		if r.Intn(2) == 0 {
			b[k] ^= 1 << r.Intn(8)
		} else {
			b[k] = byte(r.Intn(256))
		}
		l, e := dirs.Get(b)
		if e == api.OK && !bytes.Equal(bytesOf(l), b) || e != api.OK && e != api.ErrForm {
			t.Fatal(b, "is", l, int(e))
		}
	}
}

// P29.4: what is added can be removed, and what is removed can be added.
func TestAddAndRemove(t *testing.T) {
	r := rand.New(rand.NewSource(295))
	var l []dirs.Entry
	model := map[string]int{}
	for range 5000 {
		x := at(randomName(r), 1+r.Intn(lastNode))
		if len(l) > 0 && r.Intn(3) == 0 {
			x.Name = l[r.Intn(len(l))].Name
		}
		_, there := model[x.Name]
		more, e := dirs.Add(l, x)
		switch {
		case there && e != api.ErrThere, !there && len(model) == most && e != api.ErrBig:
			t.Fatal(x, "is", int(e))
		case e == api.OK:
			if n, ok := dirs.Find(more, x.Name); n != x.Node || !ok || there {
				t.Fatal(x, "is", n, ok)
			}
			if back, e := dirs.Remove(more, x.Name); e != api.OK || !slices.Equal(back, l) {
				t.Fatal("of", l, "remains", back, int(e))
			}
			l = more
			model[x.Name] = x.Node
		}
		if len(l) > 0 && r.Intn(3) == 0 || len(l) == most && r.Intn(2) == 0 {
			gone := l[r.Intn(len(l))]
			less, e := dirs.Remove(l, gone.Name)
			if e != api.OK {
				t.Fatal(gone, int(e))
			}
			if again, e := dirs.Add(less, gone); e != api.OK || !slices.Equal(again, l) {
				t.Fatal("of", l, "there is again", again, int(e))
			}
			l = less
			delete(model, gone.Name)
		}
		if len(l) != len(model) || dirs.Check(l) != api.OK {
			t.Fatal(l, "want", model)
		}
		for _, x := range l {
			if model[x.Name] != x.Node {
				t.Fatal(l, "want", model)
			}
		}
	}
}

// Rule 5: results are new memory, and what lies behind an argument stays.
func TestNewMemory(t *testing.T) {
	room := make([]dirs.Entry, 2, 8)
	room[0], room[1] = at("b", 1), at("d", 2)
	kept := slices.Clone(room[:8])
	for _, name := range []string{"a", "c", "e"} {
		more, _ := dirs.Add(room, at(name, 3))
		clear(more)
		_ = append(more[:1], at("x", 9))
	}
	for _, name := range []string{"b", "d"} {
		less, _ := dirs.Remove(room, name)
		_ = append(less, at("x", 9))
		clear(less)
	}
	clear(dirs.Names(room))
	if !slices.Equal(room[:8], kept) {
		t.Error("the entries were changed", room[:8])
	}
}
