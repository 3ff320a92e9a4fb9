package tree_test

import (
	"bytes"
	"math"
	"reflect"
	"slices"
	"strconv"
	"strings"
	"testing"

	"catenary/api"
	"catenary/tree"
	"catenary/vol"
)

const (
	maxData    = 128
	maxSize    = 512 // of a file
	mostInDir  = 32  // entries of a directory
	mostInodes = 64
	mostBlocks = 96
)

func shape(inodes, blocks int) vol.Shape {
	return vol.Shape{Inodes: inodes, Blocks: blocks}
}

var greatest = shape(mostInodes, mostBlocks)

func mk(path string) api.Call    { return api.Call{Kind: api.Make, Path: path} }
func mkdir(path string) api.Call { return api.Call{Kind: api.MakeDir, Path: path} }
func rm(path string) api.Call    { return api.Call{Kind: api.Unlink, Path: path} }
func rmdir(path string) api.Call { return api.Call{Kind: api.Rmdir, Path: path} }
func mv(path, to string) api.Call {
	return api.Call{Kind: api.Rename, Path: path, To: to}
}
func put(path string, off int, data string) api.Call {
	return api.Call{Kind: api.Put, Path: path, Off: off, Data: []byte(data)}
}
func get(path string, off, n int) api.Call {
	return api.Call{Kind: api.Get, Path: path, Off: off, N: n}
}
func cut(path string, n int) api.Call { return api.Call{Kind: api.Truncate, Path: path, N: n} }
func ls(path string) api.Call         { return api.Call{Kind: api.List, Path: path} }
func stat(path string) api.Call       { return api.Call{Kind: api.Stat, Path: path} }

// build returns a tree in which these calls were executed.
func build(t *testing.T, s vol.Shape, l ...api.Call) *tree.Tree {
	t.Helper()
	x, e := tree.New(s)
	if e != api.OK || x == nil {
		t.Fatal(s, "is no tree's:", int(e))
	}
	for _, c := range l {
		if a := x.Do(c); !reflect.DeepEqual(a, api.Answer{}) {
			t.Fatal(c, "is", a)
		}
	}
	return x
}

// many returns calls that make so many files in a directory, whose names are in order.
func many(dir string, n int) []api.Call {
	var l []api.Call
	for k := range n {
		l = append(l, mk(dir+"/n"+strconv.Itoa(100+k)))
	}
	return l
}

// filled returns calls that make a file with so many bytes.
func filled(path string, n int) []api.Call {
	l := []api.Call{mk(path)}
	for off := 0; off < n; off += maxData {
		l = append(l, put(path, off, strings.Repeat("x", min(maxData, n-off))))
	}
	return l
}

// state is everything that can be seen of a tree.
type state struct {
	inodes, blocks int
	paths          []string
	files          map[string]string
	stats          map[string]api.Answer
	lists          map[string]string
}

func see(x *tree.Tree) state {
	s := state{inodes: x.Inodes(), blocks: x.Blocks(), paths: x.Paths(), files: map[string]string{}, stats: map[string]api.Answer{}, lists: map[string]string{}}
	for _, path := range s.paths {
		s.stats[path] = x.Do(stat(path))
		if b, ok := x.File(path); ok {
			s.files[path] = string(b)
		} else {
			s.lists[path] = strings.Join(x.Do(ls(path)).Names, ",")
		}
	}
	return s
}

// fails holds a call to a code; nothing may change by it.
func fails(t *testing.T, x *tree.Tree, c api.Call, want api.Errno) {
	t.Helper()
	was := see(x)
	if a := x.Do(c); !reflect.DeepEqual(a, api.Answer{Code: want}) {
		t.Error(c, "is", a, "want", int(want))
	}
	if now := see(x); !reflect.DeepEqual(now, was) {
		t.Error(c, "changed", was, "to", now)
	}
}

// does holds a call to an answer that has nothing but OK.
func does(t *testing.T, x *tree.Tree, c api.Call) {
	t.Helper()
	if a := x.Do(c); !reflect.DeepEqual(a, api.Answer{}) {
		t.Error(c, "is", a)
	}
}

func answers(t *testing.T, x *tree.Tree, c api.Call, want api.Answer) {
	t.Helper()
	if a := x.Do(c); !tree.Same(a, want) {
		t.Error(c, "is", a, "want", want)
	}
}

func has(t *testing.T, x *tree.Tree, paths ...string) {
	t.Helper()
	if got := x.Paths(); !slices.Equal(got, append([]string{"/"}, paths...)) {
		t.Error("the paths are", got, "want /,", paths)
	}
}

// noPaths are texts that are no paths.
func noPaths() []string {
	return []string{"", "a", "a/b", "//", "/a/", "//a", "/a//b", "/.", "/..", "/a/..", "/A", "/a b", "/é", "/\xff", "/a\x00", "/abcdefghijkl", "/1/2/3/4/5/6/7/8/9", strings.Repeat("/", 500), strings.Repeat("/a", 500), strings.Repeat("a", 500)}
}

// P31.1: a shape that is valid has the tree that consists of /.
func TestNew(t *testing.T) {
	for _, s := range []vol.Shape{shape(1, 1), shape(1, mostBlocks), shape(mostInodes, 1), greatest, shape(4, 8)} {
		x := build(t, s)
		has(t, x)
		if x.Inodes() != 1 || x.Blocks() != 0 {
			t.Error(s, "uses", x.Inodes(), x.Blocks())
		}
		answers(t, x, stat("/"), api.Answer{Dir: true})
		answers(t, x, ls("/"), api.Answer{})
	}
	for _, n := range []int{0, -1, 97, 65536, 1 << 32, 1<<32 + 1, math.MinInt, math.MaxInt} {
		for _, s := range []vol.Shape{shape(n, 1), shape(1, n), shape(n, n)} {
			if x, e := tree.New(s); e != api.ErrArg || x != nil {
				t.Error(s, "is", x, int(e))
			}
		}
	}
	if x, e := tree.New(shape(mostInodes+1, 1)); e != api.ErrArg || x != nil {
		t.Error(x, int(e))
	}
}

// P31: what the functions return on a nil tree.
func TestNil(t *testing.T) {
	var x *tree.Tree
	for kind := -1; kind < 13; kind++ {
		if a := x.Do(api.Call{Kind: kind, Path: "/", Off: -1}); !reflect.DeepEqual(a, api.Answer{Code: api.ErrNil}) {
			t.Error(kind, "is", a)
		}
	}
	if b, ok := x.File("/a"); x.Inodes() != 0 || x.Blocks() != 0 || len(x.Paths()) != 0 || b != nil || ok || x.Copy() != nil {
		t.Error("a nil tree has something")
	}
}

// P31.1: kinds that there are not.
func TestKinds(t *testing.T) {
	x := build(t, greatest, mk("/a"))
	for _, kind := range []int{0, -1, 11, 12, 256, 257, 1 << 32, 1<<32 + 1, math.MinInt, math.MinInt + 1, math.MaxInt} {
		fails(t, x, api.Call{Kind: kind, Path: "/a", To: "/b"}, api.ErrArg)
		fails(t, x, api.Call{Kind: kind}, api.ErrArg)
	}
}

// P31.1: fields that a call doesn't name have no effect.
func TestOtherFields(t *testing.T) {
	with := func(c api.Call) api.Call {
		if c.Kind != api.Rename {
			c.To = "no path"
		}
		if c.Kind != api.Put && c.Kind != api.Get {
			c.Off = -1
		}
		if c.Kind != api.Get && c.Kind != api.Truncate {
			c.N = -1
		}
		if c.Kind != api.Put {
			c.Data = make([]byte, 5000)
		}
		return c
	}
	plain, other := build(t, greatest), build(t, greatest)
	for _, c := range []api.Call{mkdir("/d"), mk("/d/a"), put("/d/a", 0, "abcdef"), get("/d/a", 1, 2), cut("/d/a", 5), stat("/d/a"), ls("/d"), mv("/d/a", "/b"), stat("/d"), rmdir("/d"), rm("/b"), mk("/"), rm("/x"), ls("/x")} {
		if a, b := plain.Do(c), other.Do(with(c)); !reflect.DeepEqual(a, b) || !reflect.DeepEqual(see(plain), see(other)) {
			t.Error(with(c), "is", b, "want", a)
		}
	}
}

// P31.1: Make and MakeDir, and their errors in order.
func TestMake(t *testing.T) {
	for _, make := range []func(string) api.Call{mk, mkdir} {
		x := build(t, greatest, mkdir("/d"), mk("/f"), mkdir("/d/e"))
		for _, path := range append(noPaths(), "/") {
			fails(t, x, make(path), api.ErrName)
		}
		fails(t, x, make("/f/a"), api.ErrNotDir)
		fails(t, x, make("/f/a/b"), api.ErrNotDir)
		fails(t, x, make("/x/a"), api.ErrNoEnt)
		fails(t, x, make("/x/y/a"), api.ErrNoEnt)
		fails(t, x, make("/d/x/a"), api.ErrNoEnt)
		for _, path := range []string{"/d", "/f", "/d/e"} {
			fails(t, x, make(path), api.ErrThere)
		}
		does(t, x, make("/d/e/abcdefghijk"))
		does(t, x, make("/d/a"))
		has(t, x, "/d", "/d/a", "/d/e", "/d/e/abcdefghijk", "/f")
		answers(t, x, stat("/d/a"), api.Answer{Dir: make("").Kind == api.MakeDir})
		if b, ok := x.File("/d/a"); len(b) != 0 || ok != (make("").Kind == api.Make) {
			t.Error("the file /d/a is", b, ok)
		}
	}
}

// P31.1: as many names as a path may have.
func TestDeep(t *testing.T) {
	x := build(t, greatest)
	path := ""
	for range 8 {
		path += "/d"
		does(t, x, mkdir(path))
	}
	fails(t, x, mkdir(path+"/d"), api.ErrName)
	fails(t, x, mk(path+"/d"), api.ErrName)
	answers(t, x, ls(path), api.Answer{})
	if x.Inodes() != 9 || x.Blocks() != 8 {
		t.Error(x.Inodes(), x.Blocks())
	}
}

// P31.1: a directory has at most as many entries as fit into its blocks; ErrBig is ahead of ErrSpace.
func TestRoom(t *testing.T) {
	for _, dir := range []string{"", "/d"} {
		x := build(t, greatest, mkdir("/d"))
		if dir == "" {
			does(t, x, rmdir("/d"))
		}
		for _, c := range many(dir, mostInDir) {
			does(t, x, c)
		}
		for _, make := range []func(string) api.Call{mk, mkdir} {
			fails(t, x, make(dir+"/a"), api.ErrBig)
			fails(t, x, make(dir+"/z"), api.ErrBig)
			fails(t, x, make(dir+"/n100"), api.ErrThere)
		}
		does(t, x, rm(dir+"/n110"))
		does(t, x, mk(dir+"/a"))
		fails(t, x, mk(dir+"/b"), api.ErrBig)
	}
	x := build(t, shape(mostInDir+1, 8), many("", mostInDir)...)
	fails(t, x, mk("/a"), api.ErrBig)
}

// P31.1: ErrSpace if all inodes are used, or there would be too many blocks.
func TestMakeSpace(t *testing.T) {
	x := build(t, shape(1, mostBlocks))
	fails(t, x, mk("/a"), api.ErrSpace)
	fails(t, x, mkdir("/a"), api.ErrSpace)
	fails(t, x, mk("/a/b"), api.ErrNoEnt)
	x = build(t, shape(3, mostBlocks), mk("/a"), mkdir("/b"))
	fails(t, x, mk("/c"), api.ErrSpace)
	fails(t, x, mkdir("/b/c"), api.ErrSpace)
	fails(t, x, mk("/a"), api.ErrThere)
	does(t, x, rm("/a"))
	does(t, x, mk("/b/c"))
	x = build(t, shape(mostInodes, 2), many("", 8)...)
	fails(t, x, mk("/a"), api.ErrSpace) // a third block of /
	fails(t, x, mkdir("/a"), api.ErrSpace)
	does(t, x, rm("/n100"))
	does(t, x, mkdir("/a"))
	fails(t, x, mk("/a/b"), api.ErrSpace) // a first one of /a
	does(t, x, rm("/n101"))
	fails(t, x, mk("/a/b"), api.ErrSpace)
	does(t, x, rm("/n102"))
	does(t, x, rm("/n103"))
	fails(t, x, mk("/a/b"), api.ErrSpace)
	does(t, x, rm("/n104")) // / has four entries, in one block
	does(t, x, mk("/a/b"))
	if x.Blocks() != 2 {
		t.Error(x.Blocks())
	}
}

// P31.1: Unlink and Rmdir, and their errors in order.
func TestRemove(t *testing.T) {
	x := build(t, greatest, mkdir("/d"), mk("/f"), mkdir("/d/e"), mk("/d/g"), mkdir("/m"))
	for _, remove := range []func(string) api.Call{rm, rmdir} {
		for _, path := range append(noPaths(), "/") {
			fails(t, x, remove(path), api.ErrName)
		}
		fails(t, x, remove("/f/a"), api.ErrNotDir)
		fails(t, x, remove("/f/a/b"), api.ErrNotDir)
		fails(t, x, remove("/x"), api.ErrNoEnt)
		fails(t, x, remove("/x/y"), api.ErrNoEnt)
		fails(t, x, remove("/d/x"), api.ErrNoEnt)
	}
	fails(t, x, rm("/d"), api.ErrIsDir)
	fails(t, x, rm("/m"), api.ErrIsDir)
	fails(t, x, rmdir("/f"), api.ErrNotDir)
	fails(t, x, rmdir("/d/g"), api.ErrNotDir)
	fails(t, x, rmdir("/d"), api.ErrBusy)
	does(t, x, rmdir("/d/e"))
	fails(t, x, rmdir("/d"), api.ErrBusy)
	does(t, x, rm("/d/g"))
	answers(t, x, stat("/d"), api.Answer{Dir: true})
	does(t, x, rmdir("/d"))
	does(t, x, rm("/f"))
	fails(t, x, rm("/f"), api.ErrNoEnt)
	has(t, x, "/m")
	does(t, x, mkdir("/f"))
	does(t, x, rmdir("/f"))
	does(t, x, rmdir("/m"))
	if has(t, x); x.Inodes() != 1 || x.Blocks() != 0 {
		t.Error(x.Inodes(), x.Blocks())
	}
}

// P31.1: what is removed is forgotten with its bytes.
func TestMakeAgain(t *testing.T) {
	x := build(t, greatest, mk("/a"), put("/a", 0, "abc"), rm("/a"), mk("/a"))
	answers(t, x, get("/a", 0, 9), api.Answer{})
	answers(t, x, stat("/a"), api.Answer{})
	x = build(t, greatest, mk("/a"), put("/a", 0, "abc"), rm("/a"), mkdir("/a"))
	answers(t, x, stat("/a"), api.Answer{Dir: true})
	if _, ok := x.File("/a"); ok {
		t.Error("/a is a file")
	}
}

// P31.1: Put, and its errors in order.
func TestPut(t *testing.T) {
	x := build(t, greatest, mk("/f"), mkdir("/d"), mk("/d/g"))
	long := strings.Repeat("y", maxData+1)
	for _, path := range append(noPaths(), "/", "/f", "/d", "/x", "/f/x") {
		fails(t, x, put(path, -1, "a"), api.ErrArg)
		fails(t, x, put(path, math.MinInt, ""), api.ErrArg)
		fails(t, x, put(path, 0, long), api.ErrArg)
		fails(t, x, put(path, 600, strings.Repeat("y", 5000)), api.ErrArg)
	}
	for _, path := range noPaths() {
		fails(t, x, put(path, 600, "a"), api.ErrName)
	}
	for _, off := range []int{0, 1, 600, math.MaxInt} {
		fails(t, x, put("/", off, "a"), api.ErrIsDir)
		fails(t, x, put("/d", off, "a"), api.ErrIsDir)
		fails(t, x, put("/x", off, "a"), api.ErrNoEnt)
		fails(t, x, put("/f/x", off, "a"), api.ErrNotDir)
	}
	for _, off := range []int{1, 2, 512, 513, math.MaxInt - 1, math.MaxInt} {
		fails(t, x, put("/f", off, "a"), api.ErrRange)
		fails(t, x, put("/f", off, ""), api.ErrRange)
	}
	does(t, x, put("/f", 0, ""))
	answers(t, x, stat("/f"), api.Answer{})
	does(t, x, put("/f", 0, "abcdef"))
	does(t, x, put("/f", 2, "xy"))
	does(t, x, put("/f", 5, "z!?"))
	does(t, x, put("/f", 8, "end"))
	does(t, x, put("/f", 3, ""))
	fails(t, x, put("/f", 12, ""), api.ErrRange)
	does(t, x, put("/f", 11, ""))
	answers(t, x, get("/f", 0, maxData), api.Answer{Data: []byte("abxyez!?end")})
	answers(t, x, stat("/f"), api.Answer{Size: 11})
	answers(t, x, stat("/d/g"), api.Answer{})
	for off := 11; off < maxSize; off += maxData {
		does(t, x, put("/f", off, long[:min(maxData, maxSize-off)]))
	}
	answers(t, x, stat("/f"), api.Answer{Size: maxSize})
	fails(t, x, put("/f", maxSize, "a"), api.ErrBig)
	fails(t, x, put("/f", maxSize-1, "ab"), api.ErrBig)
	fails(t, x, put("/f", maxSize-maxData+1, long[:maxData]), api.ErrBig)
	fails(t, x, put("/f", maxSize+1, ""), api.ErrRange)
	does(t, x, put("/f", maxSize, ""))
	does(t, x, put("/f", maxSize-1, "a"))
	does(t, x, put("/f", maxSize-maxData, long[:maxData]))
}

// P31.1: Put has no more blocks than there are; ErrBig is ahead of ErrSpace.
func TestPutSpace(t *testing.T) {
	x := build(t, shape(4, 3), mk("/a"), mk("/b"))
	does(t, x, put("/a", 0, strings.Repeat("a", 64)))
	does(t, x, put("/b", 0, "b"))
	fails(t, x, put("/a", 64, "a"), api.ErrSpace)
	fails(t, x, put("/a", 63, "aa"), api.ErrSpace)
	fails(t, x, put("/b", 1, strings.Repeat("b", 64)), api.ErrSpace)
	does(t, x, put("/b", 1, strings.Repeat("b", 63)))
	does(t, x, put("/a", 1, strings.Repeat("c", 63)))
	does(t, x, put("/a", 64, ""))
	does(t, x, cut("/b", 0))
	does(t, x, put("/a", 64, "a"))
	fails(t, x, put("/b", 0, "b"), api.ErrSpace)
	does(t, x, put("/b", 0, ""))
	x = build(t, shape(2, 9), filled("/a", maxSize)...)
	fails(t, x, put("/a", maxSize, "a"), api.ErrBig)
	if x.Blocks() != 9 {
		t.Error(x.Blocks())
	}
}

// P31.1: Get, and its errors in order.
func TestGet(t *testing.T) {
	x := build(t, greatest, mk("/f"), mkdir("/d"), put("/f", 0, "abcdef"), mk("/g"))
	for _, path := range append(noPaths(), "/", "/f", "/d", "/x", "/f/x") {
		for _, n := range []int{-1, math.MinInt, maxData + 1, math.MaxInt} {
			fails(t, x, get(path, 0, n), api.ErrArg)
			fails(t, x, get(path, 99, n), api.ErrArg)
		}
		fails(t, x, get(path, -1, 1), api.ErrArg)
		fails(t, x, get(path, math.MinInt, 1), api.ErrArg)
	}
	for _, path := range noPaths() {
		fails(t, x, get(path, 600, 1), api.ErrName)
	}
	for _, off := range []int{0, 1, 600, math.MaxInt} {
		fails(t, x, get("/", off, 1), api.ErrIsDir)
		fails(t, x, get("/d", off, 1), api.ErrIsDir)
		fails(t, x, get("/x", off, 1), api.ErrNoEnt)
		fails(t, x, get("/f/x", off, 1), api.ErrNotDir)
		fails(t, x, get("/d/x", off, 1), api.ErrNoEnt)
	}
	for _, off := range []int{7, 8, 512, math.MaxInt} {
		fails(t, x, get("/f", off, 0), api.ErrRange)
		fails(t, x, get("/f", off, maxData), api.ErrRange)
	}
	fails(t, x, get("/g", 1, 0), api.ErrRange)
	answers(t, x, get("/g", 0, 5), api.Answer{})
	for off := range 7 {
		for _, n := range []int{0, 1, 2, 5, 6, 7, maxData} {
			answers(t, x, get("/f", off, n), api.Answer{Data: []byte("abcdef")[off:min(off+n, 6)]})
		}
	}
}

// P31.1: Truncate, and its errors in order; what is cut doesn't return.
func TestTruncate(t *testing.T) {
	x := build(t, greatest, mk("/f"), mkdir("/d"), put("/f", 0, "abcdef"))
	for _, path := range append(noPaths(), "/", "/f", "/d", "/x", "/f/x") {
		fails(t, x, cut(path, -1), api.ErrArg)
		fails(t, x, cut(path, math.MinInt), api.ErrArg)
	}
	for _, path := range noPaths() {
		fails(t, x, cut(path, 0), api.ErrName)
	}
	for _, n := range []int{0, 1, 600, math.MaxInt} {
		fails(t, x, cut("/", n), api.ErrIsDir)
		fails(t, x, cut("/d", n), api.ErrIsDir)
		fails(t, x, cut("/x", n), api.ErrNoEnt)
		fails(t, x, cut("/f/x", n), api.ErrNotDir)
	}
	for _, n := range []int{7, 64, 512, 513, math.MaxInt} {
		fails(t, x, cut("/f", n), api.ErrRange)
	}
	does(t, x, cut("/f", 6))
	answers(t, x, stat("/f"), api.Answer{Size: 6})
	does(t, x, cut("/f", 4))
	answers(t, x, get("/f", 0, 9), api.Answer{Data: []byte("abcd")})
	fails(t, x, cut("/f", 5), api.ErrRange)
	does(t, x, put("/f", 4, "!"))
	answers(t, x, get("/f", 0, 9), api.Answer{Data: []byte("abcd!")})
	does(t, x, cut("/f", 0))
	answers(t, x, get("/f", 0, 9), api.Answer{})
	fails(t, x, get("/f", 1, 9), api.ErrRange)
	does(t, x, cut("/f", 0))
}

// P31.1: List and Stat, and their errors in order.
func TestListAndStat(t *testing.T) {
	x := build(t, greatest, mkdir("/d"), mk("/f"), mk("/d/b"), mkdir("/d/a.b"), mk("/d/a"), mk("/d/a-"), mk("/d/a0"), mk("/d/a.b/z"), put("/d/b", 0, "12345"))
	for _, ask := range []func(string) api.Call{ls, stat} {
		for _, path := range noPaths() {
			fails(t, x, ask(path), api.ErrName)
		}
		fails(t, x, ask("/x"), api.ErrNoEnt)
		fails(t, x, ask("/x/y"), api.ErrNoEnt)
		fails(t, x, ask("/f/y"), api.ErrNotDir)
		fails(t, x, ask("/f/y/z"), api.ErrNotDir)
		fails(t, x, ask("/d/x"), api.ErrNoEnt)
	}
	fails(t, x, ls("/f"), api.ErrNotDir)
	fails(t, x, ls("/d/b"), api.ErrNotDir)
	answers(t, x, ls("/"), api.Answer{Names: []string{"d", "f"}})
	answers(t, x, ls("/d"), api.Answer{Names: []string{"a", "a-", "a.b", "a0", "b"}})
	answers(t, x, ls("/d/a.b"), api.Answer{Names: []string{"z"}})
	answers(t, x, stat("/"), api.Answer{Dir: true, Size: 2})
	answers(t, x, stat("/d"), api.Answer{Dir: true, Size: 5})
	answers(t, x, stat("/d/a.b"), api.Answer{Dir: true, Size: 1})
	answers(t, x, stat("/d/a.b/z"), api.Answer{})
	answers(t, x, stat("/d/b"), api.Answer{Size: 5})
}

// P31.2: the chapter's example, and other numbers of blocks.
func TestUses(t *testing.T) {
	x := build(t, greatest, mk("/a"), put("/a", 0, "abc"))
	if x.Blocks() != 2 || x.Inodes() != 2 {
		t.Error(x.Blocks(), x.Inodes())
	}
	answers(t, x, stat("/a"), api.Answer{Size: 3})
	for n := range maxSize + 1 {
		y := build(t, greatest, filled("/a", n)...)
		if want := 1 + (n+63)/64; y.Blocks() != want || y.Inodes() != 2 {
			t.Error(n, "bytes use", y.Blocks(), y.Inodes(), "want", want)
		}
	}
	for n := range mostInDir + 1 {
		y := build(t, greatest, append([]api.Call{mkdir("/d")}, many("/d", n)...)...)
		if want := 1 + (n+3)/4; y.Blocks() != want || y.Inodes() != 2+n {
			t.Error(n, "entries use", y.Blocks(), y.Inodes(), "want", want)
		}
	}
}

// P31.2: all paths, byte by byte.
func TestPaths(t *testing.T) {
	x := build(t, greatest, mkdir("/b"), mkdir("/a"), mk("/a/b"), mk("/a.b"), mk("/a-"), mk("/a0"), mk("/a_"), mkdir("/a/_"), mk("/aa"), mk("/-"))
	has(t, x, "/-", "/a", "/a-", "/a.b", "/a/_", "/a/b", "/a0", "/a_", "/aa", "/b")
}

// P31.2: the bytes of files, and of nothing else.
func TestFile(t *testing.T) {
	x := build(t, greatest, mkdir("/d"), mk("/f"), mk("/d/g"), put("/d/g", 0, "abc"))
	for path, want := range map[string]string{"/f": "", "/d/g": "abc"} {
		if b, ok := x.File(path); string(b) != want || !ok {
			t.Error(path, "is", b, ok)
		}
	}
	for _, path := range append(noPaths(), "/", "/d", "/x", "/f/x", "/d/x", "/d/g/x", "/F") {
		if b, ok := x.File(path); len(b) != 0 || ok {
			t.Error(path, "is", b, ok)
		}
	}
}

// P31.2: neither a copy nor the tree is changed by what is done to the other one.
func TestCopy(t *testing.T) {
	x := build(t, shape(9, 9), mkdir("/d"), mk("/d/f"), put("/d/f", 0, "abcdef"), mk("/e"))
	was := see(x)
	turns := []api.Call{put("/d/f", 1, "x"), cut("/d/f", 3), mk("/d/g"), mv("/d", "/h"), put("/e", 0, "e"), mkdir("/d"), rm("/e")}
	y := x.Copy()
	if !reflect.DeepEqual(see(y), was) {
		t.Error(see(y), "is no copy of", was)
	}
	for _, c := range turns {
		does(t, y, c)
		if !reflect.DeepEqual(see(x), was) {
			t.Fatal(c, "of the copy made the tree", see(x))
		}
	}
	changed := see(y)
	for _, c := range turns {
		does(t, x, c)
		if !reflect.DeepEqual(see(y), changed) {
			t.Fatal(c, "of the tree made the copy", see(y))
		}
	}
	if !reflect.DeepEqual(see(x), changed) {
		t.Error(see(x), "want", changed)
	}
	z := build(t, shape(2, 1), mk("/a")).Copy()
	fails(t, z, mk("/b"), api.ErrSpace) // the shape is copied, too
	fails(t, z, put("/a", 0, "a"), api.ErrSpace)
}

// P31.2: the kinds that change the tree.
func TestTurns(t *testing.T) {
	kinds := []int{api.Make, api.MakeDir, api.Unlink, api.Rmdir, api.Rename, api.Put, api.Truncate}
	for kind := -300; kind < 300; kind++ {
		if tree.Turns(kind) != slices.Contains(kinds, kind) {
			t.Error(kind, "is", tree.Turns(kind))
		}
	}
	for _, kind := range []int{math.MinInt, math.MaxInt, 1<<32 + 1, 1<<16 + 1} {
		if tree.Turns(kind) {
			t.Error(kind)
		}
	}
}

// P31.2: answers are equal if all fields are; no bytes, or names, are nil or empty.
func TestSame(t *testing.T) {
	l := []api.Answer{
		{}, {Code: api.ErrArg}, {Code: -1}, {Size: 1}, {Size: -1}, {Dir: true}, {Data: []byte{0}}, {Data: []byte{0, 0}}, {Data: []byte{1}}, {Names: []string{""}}, {Names: []string{"a"}}, {Names: []string{"a", "b"}}, {Names: []string{"b", "a"}}, {Names: []string{"ab"}},
		{Code: 1, Size: 1, Dir: true, Data: []byte("a"), Names: []string{"a"}},
	}
	for i, a := range l {
		for k, b := range l {
			if b.Data = bytes.Clone(b.Data); tree.Same(a, b) != (i == k) {
				t.Error(a, b, tree.Same(a, b))
			}
		}
	}
	if !tree.Same(api.Answer{}, api.Answer{Data: []byte{}, Names: []string{}}) || !tree.Same(api.Answer{Data: []byte{}, Names: []string{}}, api.Answer{}) {
		t.Error("nil and empty ones are not the same")
	}
}

// Rule 5: what is passed is neither changed nor kept, and results are new memory.
func TestNewMemory(t *testing.T) {
	x := build(t, greatest, mk("/a"), mk("/b"))
	data := []byte("abcdef")
	does(t, x, api.Call{Kind: api.Put, Path: "/a", Data: data})
	if string(data) != "abcdef" {
		t.Error("the data were changed", data)
	}
	clear(data)
	clear(x.Do(get("/a", 0, 6)).Data)
	clear(x.Do(ls("/")).Names)
	clear(x.Paths())
	b, _ := x.File("/a")
	clear(b)
	does(t, x, put("/a", 3, ""))
	answers(t, x, get("/a", 0, 9), api.Answer{Data: []byte("abcdef")})
	answers(t, x, ls("/"), api.Answer{Names: []string{"a", "b"}})
	has(t, x, "/a", "/b")
	_ = append(x.Do(get("/a", 0, 2)).Data, "xyz"...)
	does(t, x, cut("/a", 3))
	_ = append(x.Do(get("/a", 0, 3)).Data, "xyz"...)
	does(t, x, put("/a", 3, "d"))
	answers(t, x, get("/a", 0, 9), api.Answer{Data: []byte("abcd")})
}
