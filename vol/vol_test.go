package vol_test

import (
	"bytes"
	"math"
	"slices"
	"testing"

	"catenary/api"
	"catenary/inode"
	"catenary/vol"
)

const (
	maxInodes = 64
	maxBlocks = 96
	maxPatch  = 20
	maxData   = 64
)

func shape(inodes, blocks int) vol.Shape {
	return vol.Shape{Inodes: inodes, Blocks: blocks}
}

// shapes are volumes, the least and the greatest among them.
var shapes = []vol.Shape{shape(1, 1), shape(1, 2), shape(2, 1), shape(4, 8), shape(8, 8), shape(1, maxBlocks), shape(maxInodes, 1), shape(maxInodes-1, maxBlocks-1), shape(maxInodes, maxBlocks)}

// noShapes are no volumes; some of their numbers are of one, if cut to fewer bits.
func noShapes() []vol.Shape {
	l := []vol.Shape{{}, shape(maxInodes+1, maxBlocks+1), shape(-1, -1), shape(maxBlocks, maxInodes)}
	for _, n := range []int{0, -1, -4, maxInodes + 1, maxBlocks + 1, 256, 257, 1<<16 + 1, 1 << 32, 1<<32 + 1, math.MinInt, math.MinInt + 1, math.MaxInt} {
		l = append(l, shape(n, 1), shape(n, 8), shape(n, maxBlocks))
		if n != maxInodes+1 {
			l = append(l, shape(1, n), shape(4, n), shape(maxInodes, n))
		}
	}
	return l
}

// meaning is what a key means: the kind, and the number.
type meaning struct {
	kind, at int
}

// meanings returns what all keys of a volume mean, one after the other.
func meanings(s vol.Shape) []meaning {
	l := []meaning{{1, 0}, {2, 0}}
	for i := 1; i <= s.Inodes; i++ {
		l = append(l, meaning{3, i})
	}
	for b := 0; b < s.Blocks; b++ {
		l = append(l, meaning{4, b})
	}
	return l
}

// P30.1: the limits that the chapter names.
func TestLimits(t *testing.T) {
	if vol.MaxInodes != maxInodes || vol.MaxBlocks != maxBlocks || vol.MaxPatch != maxPatch || api.Block != maxData {
		t.Error(vol.MaxInodes, vol.MaxBlocks, vol.MaxPatch)
	}
}

// P30.1: which volumes are valid.
func TestRight(t *testing.T) {
	for _, s := range shapes {
		if !vol.Right(s) {
			t.Error(s, "is not valid")
		}
	}
	for _, s := range noShapes() {
		if vol.Right(s) {
			t.Error(s, "is valid")
		}
	}
	for inodes := -3; inodes < 110; inodes++ {
		for blocks := -3; blocks < 110; blocks++ {
			if got := vol.Right(shape(inodes, blocks)); got != (inodes >= 1 && inodes <= 64 && blocks >= 1 && blocks <= 96) {
				t.Error(inodes, blocks, "is", got)
			}
		}
	}
}

// P30.1: the chapter's example, and others of a volume with 4 inodes.
func TestExample(t *testing.T) {
	s := shape(4, 3)
	if key := vol.Block(s, 0); key != 6 {
		t.Error("block 0 has the key", key)
	}
	if vol.Block(s, 2) != 8 || vol.Inode(s, 1) != 2 || vol.Inode(s, 4) != 5 {
		t.Error(vol.Block(s, 2), vol.Inode(s, 1), vol.Inode(s, 4))
	}
	if vol.Block(s, 3) != 0 || vol.Block(s, -1) != 0 || vol.Inode(s, 0) != 0 || vol.Inode(s, 5) != 0 {
		t.Error(vol.Block(s, 3), vol.Block(s, -1), vol.Inode(s, 0), vol.Inode(s, 5))
	}
}

// P30.1: the keys of inodes and blocks that there are; 0 for others.
func TestKeys(t *testing.T) {
	for _, s := range shapes {
		for n := -200; n < 400; n++ {
			var node, block uint32
			if n >= 1 && n <= s.Inodes {
				node = uint32(n + 1)
			}
			if n >= 0 && n < s.Blocks {
				block = uint32(n + 2 + s.Inodes)
			}
			if got := vol.Inode(s, n); got != node {
				t.Error(s, "the inode", n, "has the key", got, "want", node)
			}
			if got := vol.Block(s, n); got != block {
				t.Error(s, "the block", n, "has the key", got, "want", block)
			}
		}
		for _, n := range []int{math.MinInt, math.MinInt + 1, -1 << 32, 1 << 16, 1<<16 + 1, 1 << 32, 1<<32 + 1, math.MaxInt} {
			if vol.Inode(s, n) != 0 || vol.Block(s, n) != 0 {
				t.Error(s, n, "has the key", vol.Inode(s, n), vol.Block(s, n))
			}
		}
	}
	for _, s := range noShapes() {
		for _, n := range []int{-1, 0, 1, 2, 8, 64, math.MinInt, math.MaxInt} {
			if vol.Inode(s, n) != 0 || vol.Block(s, n) != 0 {
				t.Error(s, n, "has the key", vol.Inode(s, n), vol.Block(s, n))
			}
		}
	}
}

// P30.1: what each key means; 0 and 0 for those that a volume doesn't have.
func TestWhat(t *testing.T) {
	for _, s := range shapes {
		all := meanings(s)
		for key := range uint32(500) {
			var want meaning
			if int(key) < len(all) {
				want = all[key]
			}
			if kind, at := vol.What(s, key); kind != want.kind || at != want.at {
				t.Error(s, key, "is", kind, at, "want", want)
			}
		}
		for _, key := range []uint32{1 << 8, 1 << 16, 1<<16 + 1, 1 << 31, 1<<31 + 1, math.MaxInt32, math.MaxUint32 - 1, math.MaxUint32} {
			if kind, at := vol.What(s, key); kind != 0 || at != 0 {
				t.Error(s, key, "is", kind, at)
			}
		}
	}
	for _, s := range noShapes() {
		for _, key := range []uint32{0, 1, 2, 3, 6, 65, 66, 161, math.MaxUint32} {
			if kind, at := vol.What(s, key); kind != 0 || at != 0 {
				t.Error(s, key, "is", kind, at)
			}
		}
	}
}

// P30.4: each key of each volume has one meaning, and each inode and each block one key.
func TestOneMeaning(t *testing.T) {
	for inodes := 1; inodes <= maxInodes; inodes++ {
		for blocks := 1; blocks <= maxBlocks; blocks++ {
			s := shape(inodes, blocks)
			for i := 1; i <= inodes; i++ {
				if kind, at := vol.What(s, vol.Inode(s, i)); kind != 3 || at != i {
					t.Fatal(s, "the inode", i, "is", kind, at)
				}
			}
			for b := range blocks {
				if kind, at := vol.What(s, vol.Block(s, b)); kind != 4 || at != b {
					t.Fatal(s, "the block", b, "is", kind, at)
				}
			}
			seen := map[meaning]uint32{}
			for key := range uint32(inodes + blocks + 2) {
				kind, at := vol.What(s, key)
				if other, twice := seen[meaning{kind, at}]; twice || kind == 0 {
					t.Fatal(s, key, "means what means", other, kind, at)
				}
				seen[meaning{kind, at}] = key
			}
			if kind, at := vol.What(s, uint32(inodes+blocks+2)); kind != 0 || at != 0 {
				t.Fatal(s, "has a key too many", kind, at)
			}
		}
	}
}

// sameInode reports whether both have the same fields.
func sameInode(x, y inode.Inode) bool {
	return x.Mode == y.Mode && x.Size == y.Size && slices.Equal(x.Ext, y.Ext)
}

// P30.3: no bytes are a directory without entries for inode 1, and a free inode for others.
func TestNodeOfNothing(t *testing.T) {
	for _, b := range [][]byte{nil, {}} {
		if x, e := vol.Node(1, b); e != api.OK || !sameInode(x, inode.Inode{Mode: inode.Dir}) {
			t.Error("inode 1 is", x, int(e))
		}
		for _, i := range []int{2, 3, 64, 65, 0, -1, 257, 1<<16 + 1, 1<<32 + 1, math.MinInt + 1, math.MinInt, math.MaxInt} {
			if x, e := vol.Node(i, b); e != api.OK || !sameInode(x, inode.Inode{}) {
				t.Error("inode", i, "is", x, int(e))
			}
		}
	}
}

// P30.3: all other bytes are what they are for an inode, whichever it is.
func TestNode(t *testing.T) {
	file, _ := inode.Of(inode.File, 100, []int{7, 8})
	far, _ := inode.Of(inode.Dir, 64, []int{4095}) // more than any volume has
	for _, x := range []inode.Inode{{}, {Mode: inode.File}, {Mode: inode.Dir}, file, far} {
		b, _ := inode.Put(x)
		for _, i := range []int{1, 2, 64, 0, -1, 65, math.MaxInt} {
			if got, e := vol.Node(i, b); e != api.OK || !sameInode(got, x) {
				t.Error("inode", i, "is", got, int(e), "want", x)
			}
		}
	}
	for _, c := range []struct {
		b    []byte
		want api.Errno
	}{
		{[]byte{0}, api.ErrShort}, {[]byte{1}, api.ErrShort}, {[]byte{2, 0}, api.ErrShort}, {[]byte{2, 0, 0, 0, 0}, api.ErrShort}, {[]byte{1, 1, 0, 0, 0, 100, 0, 7, 0}, api.ErrShort},
		{[]byte{3}, api.ErrForm}, {[]byte{1, 9}, api.ErrForm}, {[]byte{2, 0, 0, 0, 0, 1}, api.ErrForm}, {[]byte{2, 0, 0, 0, 0, 0, 0}, api.ErrForm}, {[]byte{1, 1, 0, 0, 0, 100, 0, 7, 0, 1}, api.ErrForm},
	} {
		for _, i := range []int{1, 2, 64, 0, -1} {
			if got, e := vol.Node(i, c.b); e != c.want || !sameInode(got, inode.Inode{}) {
				t.Error("inode", i, "of", c.b, "is", got, int(e), "want", int(c.want))
			}
		}
	}
}

// P30.3: as many bytes as a block has, zero behind those that are given, in new memory.
func TestWhole(t *testing.T) {
	for n := range 200 {
		b := make([]byte, n)
		for k := range b {
			b[k] = byte(n + k + 1)
		}
		was := slices.Clone(b)
		got := vol.Whole(b)
		for k := range maxData {
			var want byte
			if k < n {
				want = b[k]
			}
			if len(got) != maxData || got[k] != want {
				t.Fatal(n, "bytes are", got)
			}
		}
		clear(got)
		_ = append(got, 1)
		if !bytes.Equal(b, was) {
			t.Error("the bytes were changed", b)
		}
	}
	for _, b := range [][]byte{nil, {}, make([]byte, 64), make([]byte, 1<<16)} {
		if !bytes.Equal(vol.Whole(b), make([]byte, 64)) {
			t.Error(len(b), "zero bytes are", vol.Whole(b))
		}
	}
	room := make([]byte, 2, 100)
	if got := vol.Whole(room[:2]); len(got) != maxData || bytes.ContainsFunc(room[:100], func(c rune) bool { return c != 0 }) {
		t.Error(got)
	}
	dirty := bytes.Repeat([]byte{9}, 100)
	if got := vol.Whole(dirty[:2]); !bytes.Equal(got, append([]byte{9, 9}, make([]byte, 62)...)) || !bytes.Equal(dirty, bytes.Repeat([]byte{9}, 100)) {
		t.Error("what lies behind the bytes is in", got, dirty)
	}
}
