package plan

import (
	"catenary/api"
	"catenary/bits"
	"catenary/inode"
)

const mapKey = 1 // of the bitmap

// bitmap returns the bitmap, and how many bits it has.
func (w *work) bitmap() ([]byte, int) {
	b := w.read(mapKey)
	n := w.shape.Blocks + w.shape.Inodes
	if !bits.Fits(b, n) || bits.Has(b, w.nodeBit(rootNode)) {
		panic(api.ErrForm)
	}
	return b, n
}

// nodeBit returns the bit of an inode: they follow those of the blocks.
func (w *work) nodeBit(no int) int {
	return w.shape.Blocks + no - rootNode
}

// takeBlocks returns that many blocks that were free, and are used now.
func (w *work) takeBlocks(count int) ([]int, api.Errno) {
	if count == 0 {
		return nil, api.OK
	}
	b, n := w.bitmap()
	made, l, e := bits.Take(b, n, count)
	if e != api.OK || l[count-1] >= w.shape.Blocks { // these are inodes
		return nil, api.ErrSpace
	}
	w.write(mapKey, made)
	return l, api.OK
}

// giveBits makes these bits free.
func (w *work) giveBits(l []int) {
	if len(l) == 0 {
		return
	}
	b, n := w.bitmap()
	made, e := bits.Give(b, n, l)
	must(e)
	w.write(mapKey, made)
}

// takeNode returns the number of an inode that was free, and is used now.
func (w *work) takeNode() (int, api.Errno) {
	b, n := w.bitmap()
	for no := rootNode + 1; no <= w.shape.Inodes; no++ {
		if bits.Has(b, w.nodeBit(no)) {
			continue
		}
		if w.node(no).Mode != inode.Free {
			panic(api.ErrForm)
		}
		made, e := bits.Set(b, n, w.nodeBit(no), true)
		must(e)
		w.write(mapKey, made)
		return no, api.OK
	}
	return 0, api.ErrSpace
}

// giveItem makes an inode free, and its blocks.
func (w *work) giveItem(x item) {
	w.giveBits(append(inode.Blocks(x.node), w.nodeBit(x.no)))
	w.keep(item{no: x.no})
}

// resize gives x as many blocks as so many bytes need, or takes from it those that are too many.
func (w *work) resize(x item, size int) (item, api.Errno) {
	if size < x.node.Size {
		less, gone, e := inode.Cut(x.node, size)
		must(e)
		w.giveBits(gone)
		x.node = less
	} else {
		blocks, e := w.takeBlocks(inode.Need(size) - inode.Need(x.node.Size))
		if e != api.OK {
			return item{}, e
		}
		more, e := inode.Grow(x.node, size, blocks)
		must(e)
		x.node = more
	}
	w.keep(x)
	return x, api.OK
}
