package tree_test

import (
	"math/rand"
	"slices"
	"sort"
	"strconv"
	"strings"
	"testing"

	"catenary/api"
	"catenary/tree"
	"catenary/vol"
)

// node is a file or a directory of the model, which knows those below it by their names.
type node struct {
	dir  bool
	data []byte
	sub  map[string]*node
}

// model is a tree that is made of nodes.
type model struct {
	shape vol.Shape
	top   *node
}

func newModel(s vol.Shape) *model {
	return &model{s, &node{dir: true, sub: map[string]*node{}}}
}

func (n *node) need() int {
	if n.dir {
		return (len(n.sub)*16 + 63) / 64
	}
	return (len(n.data) + 63) / 64
}

// uses returns how many inodes and blocks there are from n on.
func (n *node) uses() (int, int) {
	inodes, blocks := 1, n.need()
	for _, x := range n.sub {
		i, b := x.uses()
		inodes, blocks = inodes+i, blocks+b
	}
	return inodes, blocks
}

// paths returns the paths from n on, whose own is path.
func (n *node) paths(path string) []string {
	l := []string{path}
	if path == "/" {
		path = ""
	}
	for name, x := range n.sub {
		l = append(l, x.paths(path+"/"+name)...)
	}
	sort.Strings(l)
	return l
}

// namesOf returns the names of a path, and whether it is one.
func namesOf(path string) ([]string, bool) {
	if path == "/" {
		return nil, true
	}
	parts := strings.Split(path, "/")
	if parts[0] != "" || len(parts) == 1 || len(parts) > 9 {
		return nil, false
	}
	for _, name := range parts[1:] {
		if len(name) < 1 || len(name) > 11 || name == "." || name == ".." || strings.Trim(name, "abcdefghijklmnopqrstuvwxyz0123456789._-") != "" {
			return nil, false
		}
	}
	return parts[1:], true
}

func (m *model) find(names []string) (*node, api.Errno) {
	x := m.top
	for _, name := range names {
		switch next := x.sub[name]; {
		case !x.dir:
			return nil, api.ErrNotDir
		case next == nil:
			return nil, api.ErrNoEnt
		default:
			x = next
		}
	}
	return x, api.OK
}

// above returns the directory of the last name.
func (m *model) above(names []string) (*node, api.Errno) {
	x, e := m.find(names[:len(names)-1])
	if e == api.OK && !x.dir {
		e = api.ErrNotDir
	}
	return x, e
}

// full reports whether the tree uses too much.
func (m *model) full() bool {
	inodes, blocks := m.top.uses()
	return inodes > m.shape.Inodes || blocks > m.shape.Blocks
}

// do executes the call; what turns out to be too much is undone.
func (m *model) do(c api.Call) api.Answer {
	if c.Kind < 1 || c.Kind > 10 {
		return api.Answer{Code: api.ErrArg}
	}
	bad := c.Kind == api.Put && (c.Off < 0 || len(c.Data) > 128) || c.Kind == api.Get && (c.Off < 0 || c.N < 0 || c.N > 128) || c.Kind == api.Truncate && c.N < 0
	if bad {
		return api.Answer{Code: api.ErrArg}
	}
	names, ok := namesOf(c.Path)
	to, ok2 := namesOf(c.To)
	if !ok || c.Kind <= api.Rename && len(names) == 0 || c.Kind == api.Rename && (!ok2 || len(to) == 0) {
		return api.Answer{Code: api.ErrName}
	}
	switch c.Kind {
	case api.Make:
		return api.Answer{Code: m.make(names, &node{})}
	case api.MakeDir:
		return api.Answer{Code: m.make(names, &node{dir: true, sub: map[string]*node{}})}
	case api.Rename:
		return api.Answer{Code: m.rename(names, to)}
	}
	x, e := m.find(names)
	if e != api.OK {
		return api.Answer{Code: e}
	}
	switch c.Kind {
	case api.Unlink, api.Rmdir:
		return api.Answer{Code: m.remove(names, x, c.Kind)}
	case api.Stat:
		return api.Answer{Dir: x.dir, Size: len(x.sub) + len(x.data)}
	case api.List:
		if !x.dir {
			return api.Answer{Code: api.ErrNotDir}
		}
		var l []string
		for name := range x.sub {
			l = append(l, name)
		}
		sort.Strings(l)
		return api.Answer{Names: l}
	}
	return m.file(x, c)
}

func (m *model) make(names []string, x *node) api.Errno {
	dir, e := m.above(names)
	last := names[len(names)-1]
	switch {
	case e != api.OK:
		return e
	case dir.sub[last] != nil:
		return api.ErrThere
	case len(dir.sub) == 32:
		return api.ErrBig
	}
	if dir.sub[last] = x; m.full() {
		delete(dir.sub, last)
		return api.ErrSpace
	}
	return api.OK
}

func (m *model) remove(names []string, x *node, kind int) api.Errno {
	switch {
	case kind == api.Unlink && x.dir:
		return api.ErrIsDir
	case kind == api.Rmdir && !x.dir:
		return api.ErrNotDir
	case len(x.sub) > 0:
		return api.ErrBusy
	}
	dir, _ := m.above(names)
	delete(dir.sub, names[len(names)-1])
	return api.OK
}

func (m *model) rename(names, to []string) api.Errno {
	x, e := m.find(names)
	switch {
	case e != api.OK:
		return e
	case x.dir && len(to) > len(names) && slices.Equal(to[:len(names)], names):
		return api.ErrLoop
	case x.dir && len(to) > len(names):
		return api.ErrLong
	}
	from, _ := m.above(names)
	dir, e := m.above(to)
	was, last := names[len(names)-1], to[len(to)-1]
	switch {
	case e != api.OK:
		return e
	case dir.sub[last] != nil:
		return api.ErrThere
	case len(dir.sub) == 32 && dir != from:
		return api.ErrBig
	}
	delete(from.sub, was)
	if dir.sub[last] = x; m.full() {
		delete(dir.sub, last)
		from.sub[was] = x
		return api.ErrSpace
	}
	return api.OK
}

func (m *model) file(x *node, c api.Call) api.Answer {
	at := c.Off
	if c.Kind == api.Truncate {
		at = c.N
	}
	switch {
	case x.dir:
		return api.Answer{Code: api.ErrIsDir}
	case at > len(x.data):
		return api.Answer{Code: api.ErrRange}
	case c.Kind == api.Get:
		return api.Answer{Data: slices.Clone(x.data[at:min(at+c.N, len(x.data))])}
	case c.Kind == api.Truncate:
		x.data = x.data[:at:at]
		return api.Answer{}
	}
	old := x.data
	x.data = slices.Concat(old[:at], c.Data, old[min(at+len(c.Data), len(old)):])
	if len(x.data) > 512 {
		x.data = old
		return api.Answer{Code: api.ErrBig}
	}
	if m.full() {
		x.data = old
		return api.Answer{Code: api.ErrSpace}
	}
	return api.Answer{}
}

// maker makes random calls for a model; grow of ten of them make something, and narrow of ten do it in /, or in the last file.
type maker struct {
	r            *rand.Rand
	m            *model
	there        []string
	grow, narrow int
}

// path returns one of few names, mostly one that there is, or one just below; seldom none.
func (x *maker) path() string {
	names := []string{"a", "b", "c", "a.b", "a-", "0", "_"}
	switch at := x.r.Intn(40); {
	case at == 0:
		return noPaths()[x.r.Intn(len(noPaths()))]
	case at < 12:
		path := ""
		for range 1 + x.r.Intn(3) {
			path += "/" + names[x.r.Intn(len(names))]
		}
		return path
	case at < 25:
		return strings.TrimSuffix(x.there[x.r.Intn(len(x.there))], "/") + "/" + names[x.r.Intn(len(names))]
	case at < 30:
		return strings.TrimSuffix(x.there[x.r.Intn(len(x.there))], "/") + x.numbered()
	}
	return x.there[x.r.Intn(len(x.there))]
}

func (x *maker) numbered() string {
	return "/n" + strconv.Itoa(x.r.Intn(90))
}

// end returns the size of what is at the path.
func (x *maker) end(path string) int {
	names, ok := namesOf(path)
	if !ok {
		return 0
	}
	if n, e := x.m.find(names); e == api.OK {
		return len(n.data)
	}
	return 0
}

func (x *maker) call() api.Call {
	r := x.r
	c := api.Call{Kind: 1 + r.Intn(10), Path: x.path(), To: x.path()}
	if r.Intn(10) < x.grow {
		c.Kind = []int{api.Make, api.Make, api.MakeDir, api.Put}[r.Intn(4)]
	}
	if r.Intn(10) < x.narrow {
		c.To = x.numbered()
		if c.Kind <= api.MakeDir {
			c.Path = x.numbered()
		}
		if c.Kind == api.Put {
			c.Path = x.there[len(x.there)-1]
		}
	}
	c.N = r.Intn(130) - 1
	if c.Kind == api.Truncate {
		c.N = r.Intn(r.Intn(513) + 1)
	}
	switch r.Intn(3) {
	case 0:
		c.Off = r.Intn(r.Intn(520) + 1)
	case 1:
		c.Off = x.end(c.Path)
	}
	c.Data = make([]byte, r.Intn(129))
	r.Read(c.Data)
	switch r.Intn(60) {
	case 0:
		c.Off = -1 - r.Intn(3)
	case 1:
		c.Data = make([]byte, 129+r.Intn(3))
	case 2:
		c.Kind = []int{0, -1, 11, 12}[r.Intn(4)]
	}
	return c
}

// P31.1, P31.2, P31.3: on random calls a tree answers, and has, what the model does; only calls that may and succeed change it; it never uses more than there is.
func TestModel(t *testing.T) {
	r := rand.New(rand.NewSource(31))
	seen := map[[2]int]int{} // kinds and codes
	for round := range 150 {
		s := shape(1+r.Intn(mostInodes), 1+r.Intn(mostBlocks))
		if round%3 == 0 {
			s = shape(mostInodes-r.Intn(3), mostBlocks-r.Intn(3))
		}
		x, m := build(t, s), newModel(s)
		for range 300 {
			there := m.top.paths("/")
			next := maker{r, m, there, round % 10, round / 10 % 2 * 9}
			c := next.call()
			was := x.Copy()
			got, want := x.Do(c), m.do(c)
			if !tree.Same(got, want) {
				t.Fatal(s, there, c, "is", got, "want", want)
			}
			seen[[2]int{c.Kind, int(got.Code)}]++
			if got.Code != api.OK || !tree.Turns(c.Kind) {
				mustBe(t, x, was)
			}
			inodes, blocks := m.top.uses()
			if x.Inodes() != inodes || x.Blocks() != blocks || inodes > s.Inodes || blocks > s.Blocks {
				t.Fatal(s, c, "uses", x.Inodes(), x.Blocks(), "want", inodes, blocks)
			}
			if now := m.top.paths("/"); !slices.Equal(x.Paths(), now) {
				t.Fatal(c, "has", x.Paths(), "want", now)
			}
		}
		sameFiles(t, x, m)
	}
	for kind, l := range map[int][]api.Errno{
		api.Make: {0, 18, 14, 13, 8, 17, 16}, api.MakeDir: {0, 18, 14, 13, 8, 17, 16}, api.Unlink: {0, 18, 14, 13, 15}, api.Rmdir: {0, 18, 14, 13, 19},
		api.Rename: {0, 18, 14, 13, 21, 6, 8, 17, 16}, api.Put: {0, 1, 18, 14, 13, 15, 20, 17, 16}, api.Get: {0, 1, 18, 14, 13, 15, 20}, api.Truncate: {0, 18, 14, 13, 15, 20}, api.List: {0, 18, 14, 13}, api.Stat: {0, 18, 14, 13},
	} {
		for _, e := range l {
			if seen[[2]int{kind, int(e)}] == 0 {
				t.Error("no call of the kind", kind, "was", int(e))
			}
		}
	}
}

// mustBe holds a tree to a copy that was made of it.
func mustBe(t *testing.T, x, was *tree.Tree) {
	t.Helper()
	if !slices.Equal(x.Paths(), was.Paths()) {
		t.Fatal("the paths were changed from", was.Paths(), "to", x.Paths())
	}
	for _, path := range was.Paths() {
		a, ok := was.File(path)
		b, now := x.File(path)
		if string(a) != string(b) || ok != now {
			t.Fatal(path, "was changed from", a, ok, "to", b, now)
		}
	}
}

func sameFiles(t *testing.T, x *tree.Tree, m *model) {
	t.Helper()
	for _, path := range m.top.paths("/") {
		names, _ := namesOf(path)
		want, _ := m.find(names)
		if got, ok := x.File(path); ok == want.dir || string(got) != string(want.data) {
			t.Fatal(path, "is", got, ok, "want", want)
		}
	}
}
