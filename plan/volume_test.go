package plan_test

import (
	"bytes"
	"slices"
	"strconv"
	"strings"
	"testing"

	"catenary/api"
	"catenary/plan"
	"catenary/tree"
	"catenary/vol"
)

const (
	maxData    = 128
	maxSize    = 512 // of a file
	mostInDir  = 32  // entries of a directory
	mostInodes = 64
	mostBlocks = 96
)

var greatest = shape(mostInodes, mostBlocks)

func shape(inodes, blocks int) vol.Shape {
	return vol.Shape{Inodes: inodes, Blocks: blocks}
}

func mk(path string) api.Call    { return api.Call{Kind: api.Make, Path: path} }
func mkdir(path string) api.Call { return api.Call{Kind: api.MakeDir, Path: path} }
func rm(path string) api.Call    { return api.Call{Kind: api.Unlink, Path: path} }
func rmdir(path string) api.Call { return api.Call{Kind: api.Rmdir, Path: path} }
func mv(path, to string) api.Call {
	return api.Call{Kind: api.Rename, Path: path, To: to}
}
func put(path string, off int, data string) api.Call {
	return api.Call{Kind: api.Put, Path: path, Off: off, Data: []byte(data)}
}
func get(path string, off, n int) api.Call {
	return api.Call{Kind: api.Get, Path: path, Off: off, N: n}
}
func cut(path string, n int) api.Call { return api.Call{Kind: api.Truncate, Path: path, N: n} }
func ls(path string) api.Call         { return api.Call{Kind: api.List, Path: path} }
func stat(path string) api.Call       { return api.Call{Kind: api.Stat, Path: path} }

// many returns calls that make so many files in a directory, whose names are in order.
func many(dir string, n int) []api.Call {
	var l []api.Call
	for k := range n {
		l = append(l, mk(dir+"/n"+strconv.Itoa(100+k)))
	}
	return l
}

// volume is a volume with the tree that it should hold.
type volume struct {
	t     *testing.T
	shape vol.Shape
	view  *plan.View // of all keys that were written
	tree  *tree.Tree
}

func newVolume(t *testing.T, s vol.Shape, l ...api.Call) *volume {
	t.Helper()
	x, e := tree.New(s)
	if e != api.OK {
		t.Fatal(s, int(e))
	}
	v := &volume{t, s, plan.New(), x}
	for _, c := range l {
		if p := v.do(c); p.Answer.Code != api.OK {
			t.Fatal(c, "is", p.Answer)
		}
	}
	return v
}

// value returns the value of a key as a block's: with zero bytes behind it.
func (v *volume) value(key uint32) []byte {
	_, b, _ := v.view.Knows(key)
	return b
}

// whole returns a view of all keys of the volume but the root block's, those that were never written with version 0.
func (v *volume) whole() *plan.View {
	x := plan.New()
	for key := uint32(1); key <= v.last(); key++ {
		ver, data, _ := v.view.Knows(key)
		x.Know(key, ver, data)
	}
	return x
}

func (v *volume) last() uint32 {
	return vol.Block(v.shape, v.shape.Blocks-1)
}

// plan plans the call again and again, with each block that it lacks.
func (v *volume) plan(c api.Call) (plan.Plan, *plan.View) {
	v.t.Helper()
	x := plan.New()
	for {
		p := plan.Make(v.shape, x, c)
		if !p.Lacks {
			if p.Key != 0 {
				v.t.Fatal(c, "has the key", p.Key, "and lacks nothing")
			}
			return p, x
		}
		if _, _, again := x.Knows(p.Key); again || p.Key == 0 || p.Key > v.last() {
			v.t.Fatal(c, "lacks", p.Key, "again:", again)
		}
		if !tree.Same(p.Answer, api.Answer{}) || len(p.Patches) != 0 {
			v.t.Fatal(c, "lacks something, and is", p)
		}
		ver, data, _ := v.view.Knows(p.Key)
		x.Know(p.Key, ver, data)
	}
}

// do plans and executes a call, and holds everything to the tree.
func (v *volume) do(c api.Call) plan.Plan {
	v.t.Helper()
	p, seen := v.plan(c)
	if all := plan.Make(v.shape, v.whole(), c); !samePlan(all, p) {
		v.t.Fatal(c, "is", all, "with everything known, otherwise", p)
	}
	if want := v.tree.Do(c); !tree.Same(p.Answer, want) {
		v.t.Fatal(c, "is", p.Answer, "want", want, "in", v.tree.Paths())
	}
	v.mustFit(c, p, seen)
	v.view.Do(p.Patches)
	for _, x := range p.Patches {
		if ver, data, _ := v.view.Knows(x.Key); ver != x.Ver+1 || !bytes.Equal(data, x.Data) {
			v.t.Fatal(x, "has no effect")
		}
	}
	return p
}

// mustFit holds the patches to what is said of them.
func (v *volume) mustFit(c api.Call, p plan.Plan, seen *plan.View) {
	v.t.Helper()
	if len(p.Patches) > 0 && (p.Answer.Code != api.OK || !tree.Turns(c.Kind)) {
		v.t.Fatal(c, "is", p)
	}
	if e := vol.Check(v.shape, p.Patches); e != api.OK || len(p.Patches) > vol.MaxPatch {
		v.t.Fatal(c, "has patches that are", int(e), p.Patches)
	}
	for _, x := range p.Patches {
		if ver, _, ok := seen.Knows(x.Key); ver != x.Ver || !ok {
			v.t.Fatal(c, "has the patch", x, "but the version is", ver, ok)
		}
	}
}

func samePlan(p, q plan.Plan) bool {
	same := func(x, y vol.Patch) bool { return x.Key == y.Key && x.Ver == y.Ver && bytes.Equal(x.Data, y.Data) }
	return p.Lacks == q.Lacks && p.Key == q.Key && tree.Same(p.Answer, q.Answer) && slices.EqualFunc(p.Patches, q.Patches, same)
}

// rawInode is an inode as its bytes say it.
type rawInode struct {
	mode, size int
	blocks     []int
}

// inode reads an inode by its bytes: Mode, the number of extents, Size, and the extents.
func (v *volume) inode(i int) rawInode {
	b := v.value(vol.Inode(v.shape, i))
	if len(b) == 0 {
		if i == 1 {
			return rawInode{mode: 2}
		}
		return rawInode{}
	}
	x := rawInode{mode: int(b[0]), size: int(b[4])<<8 | int(b[5])}
	for k := range int(b[1]) {
		e := b[6+4*k:]
		for n := range int(e[2])<<8 | int(e[3]) {
			x.blocks = append(x.blocks, int(e[0])<<8|int(e[1])+n)
		}
	}
	if len(b) != 6+4*int(b[1]) || len(x.blocks) != (x.size+63)/64 {
		v.t.Fatal("the inode", i, "is", b)
	}
	return x
}

// content reads the bytes of an inode; each block is whole, the last one with zero bytes at its end.
func (v *volume) content(x rawInode) []byte {
	v.t.Helper()
	var b []byte
	for _, block := range x.blocks {
		data := v.value(vol.Block(v.shape, block))
		if len(data) != 64 {
			v.t.Fatal("the block", block, "is", data)
		}
		b = append(b, data...)
	}
	if strings.Trim(string(b[x.size:]), "\x00") != "" {
		v.t.Fatal("behind its", x.size, "bytes", x, "has", b[x.size:])
	}
	return b[:x.size]
}

// check holds the volume to the tree: paths, bytes, and each bit of the bitmap.
func (v *volume) check() {
	v.t.Helper()
	used := map[int]string{} // bits, by what uses them
	use := func(bit int, path string) {
		if used[bit] != "" {
			v.t.Fatal("the bit", bit, "is used by", path, "and", used[bit])
		}
		used[bit] = path
	}
	var paths []string
	var walk func(i int, path string)
	walk = func(i int, path string) {
		if i < 1 || i > v.shape.Inodes {
			v.t.Fatal(path, "is the inode", i)
		}
		if path != "/" {
			use(v.shape.Blocks+i-1, path)
		}
		paths = append(paths, path)
		x := v.inode(i)
		for _, block := range x.blocks {
			use(block, path)
		}
		b := v.content(x)
		a := v.tree.Do(stat(path))
		if a.Code != api.OK || a.Dir != (x.mode == 2) || x.mode == 0 || a.Dir && 16*a.Size != x.size || !a.Dir && a.Size != x.size {
			v.t.Fatal(path, "is", x, "want", a)
		}
		if !a.Dir {
			if want, _ := v.tree.File(path); !bytes.Equal(b, want) {
				v.t.Fatal(path, "is", b, "want", want)
			}
			return
		}
		last := ""
		for ; len(b) > 0; b = b[16:] {
			name := string(b[1 : 1+b[0]])
			if name <= last || strings.Trim(string(b[1+b[0]:12]), "\x00") != "" {
				v.t.Fatal(path, "has", name, "behind", last)
			}
			last = name
			walk(int(b[14])<<8|int(b[15]), strings.TrimSuffix(path, "/")+"/"+name)
		}
	}
	walk(1, "/")
	slices.Sort(paths)
	if !slices.Equal(paths, v.tree.Paths()) {
		v.t.Fatal("the volume has", paths, "want", v.tree.Paths())
	}
	v.checkBits(used)
}

// checkBits holds the bitmap to the bits that are used; every inode that is not free uses one, but /.
func (v *volume) checkBits(used map[int]string) {
	v.t.Helper()
	n := v.shape.Blocks + v.shape.Inodes
	b := v.value(1)
	if len(b) != 0 && len(b) != (n+7)/8 {
		v.t.Fatal("the bitmap is", b)
	}
	for bit := range 8 * len(b) {
		if (b[bit/8]>>(bit%8)&1 == 1) != (used[bit] != "") {
			v.t.Fatal("the bit", bit, "of", b, "is used by", used[bit])
		}
	}
	if len(b) == 0 && len(used) > 0 {
		v.t.Fatal("the bitmap is empty, and used", used)
	}
	for i := 2; i <= v.shape.Inodes; i++ {
		if (v.inode(i).mode != 0) != (used[v.shape.Blocks+i-1] != "") {
			v.t.Fatal("the inode", i, "is", v.inode(i))
		}
	}
	inodes, blocks := 1, 0
	for bit := range used {
		if bit < v.shape.Blocks {
			blocks++
		} else {
			inodes++
		}
	}
	if inodes != v.tree.Inodes() || blocks != v.tree.Blocks() {
		v.t.Fatal("the volume uses", inodes, blocks, "the tree", v.tree.Inodes(), v.tree.Blocks())
	}
}
