package plan

import (
	"bytes"
	"iter"
	"slices"

	"catenary/api"
	"catenary/dirs"
	"catenary/inode"
	"catenary/vol"
)

const rootNode = 1 // the inode of /

// work is a call that is being planned: what it has written so far lies above the view.
type work struct {
	shape   vol.Shape
	view    *View
	written map[uint32][]byte // by keys
}

// item is an inode of the tree, and its number.
type item struct {
	no   int
	node inode.Inode
}

// piece is what is written into one block: its index among those of the inode, where in it, and the bytes.
type piece struct {
	index, at int
	data      []byte
}

// must ends the plan if e is an error: it is one that no volume that holds a tree causes.
func must(e api.Errno) {
	if e != api.OK {
		panic(api.ErrForm)
	}
}

// patches returns what is written, where that is not what the view has.
func (w *work) patches() []vol.Patch {
	var l []vol.Patch
	for key, data := range w.written {
		if ver, old, _ := w.view.Knows(key); !bytes.Equal(old, data) {
			l = append(l, vol.Patch{Key: key, Ver: ver, Data: data})
		}
	}
	return vol.Sort(l)
}

// read returns the value of the key; the plan ends if the view doesn't have it.
func (w *work) read(key uint32) []byte {
	if data, ok := w.written[key]; ok {
		return data
	}
	_, data, ok := w.view.Knows(key)
	if !ok {
		panic(lack(key))
	}
	return data
}

// write makes data the value of the key, which was read: its patch needs the version that the view has.
func (w *work) write(key uint32, data []byte) {
	w.written[key] = data
}

// node returns the inode with that number, which the volume has.
func (w *work) node(no int) inode.Inode {
	x, e := vol.Node(no, w.read(vol.Inode(w.shape, no)))
	must(e)
	if slices.ContainsFunc(inode.Blocks(x), func(b int) bool { return b >= w.shape.Blocks }) {
		panic(api.ErrForm)
	}
	return x
}

// item returns the inode with that number, which is reached, and so not free.
func (w *work) item(no int) item {
	x := item{no: no, node: w.node(no)}
	if x.node.Mode == inode.Free || no == rootNode && x.node.Mode != inode.Dir {
		panic(api.ErrForm)
	}
	return x
}

// keep writes the inode.
func (w *work) keep(x item) {
	b, e := inode.Put(x.node)
	must(e)
	w.write(vol.Inode(w.shape, x.no), b)
}

// content returns n of the inode's bytes, from off on.
func (w *work) content(x inode.Inode, off, n int) []byte {
	if n == 0 {
		return nil
	}
	first := off / api.Block
	var b []byte
	for _, block := range inode.Blocks(x)[first:inode.Need(off+n)] {
		b = append(b, vol.Whole(w.read(vol.Block(w.shape, block)))...)
	}
	return b[off-first*api.Block:][:n]
}

// fill writes data at off; the inode has the blocks for it.
func (w *work) fill(x inode.Inode, off int, data []byte) {
	for p := range pieces(off, data) {
		w.fillPiece(x, p)
	}
}

// fillPiece writes a piece; behind the inode's size, the block has zero bytes.
func (w *work) fillPiece(x inode.Inode, p piece) {
	key := vol.Block(w.shape, inode.Blocks(x)[p.index])
	b := vol.Whole(w.read(key))
	copy(b[p.at:], p.data)
	if size := x.Size - p.index*api.Block; size < api.Block {
		clear(b[size:])
	}
	w.write(key, b)
}

// pieces divides what is written at off by blocks.
func pieces(off int, data []byte) iter.Seq[piece] {
	return func(yield func(piece) bool) {
		for done := 0; done < len(data); {
			at := (off + done) % api.Block
			end := min(done+api.Block-at, len(data))
			if !yield(piece{index: (off + done) / api.Block, at: at, data: data[done:end]}) {
				return
			}
			done = end
		}
	}
}

// entries returns those of a directory, all of which name inodes that there are; none of them names /.
func (w *work) entries(x item) ([]dirs.Entry, api.Errno) {
	if x.node.Mode != inode.Dir {
		return nil, api.ErrNotDir
	}
	l, e := dirs.Get(w.content(x.node, 0, x.node.Size))
	must(e)
	for _, y := range l {
		if y.Node == rootNode || vol.Inode(w.shape, y.Node) == 0 {
			panic(api.ErrForm)
		}
	}
	return l, api.OK
}

// putEntries writes those of a directory.
func (w *work) putEntries(x item, l []dirs.Entry) api.Errno {
	b, e := dirs.Put(l)
	must(e)
	x, e = w.resize(x, len(b))
	if e != api.OK {
		return e
	}
	w.fill(x.node, 0, b)
	return api.OK
}
