package tree

import (
	"bytes"
	"maps"
	"slices"

	"catenary/api"
	"catenary/dirs"
	"catenary/inode"
)

const maxSize = api.MaxFile * api.Block // of a file

func (t *Tree) makeFile(c api.Call) api.Answer {
	return answer(t.create(c.Path, &item{}))
}

func (t *Tree) makeDir(c api.Call) api.Answer {
	return answer(t.create(c.Path, &item{dir: true}))
}

// create adds x, which is empty, to the tree.
func (t *Tree) create(path string, x *item) api.Errno {
	above, e := t.parent(path)
	switch {
	case e != api.OK:
		return e
	case t.has(path):
		return api.ErrThere
	case !above.hasRoom():
		return api.ErrBig
	case len(t.items) >= t.shape.Inodes || !t.hasBlocks(above.more(dirs.Size)):
		return api.ErrSpace
	}
	t.items[path] = x
	above.entries++
	return api.OK
}

func (t *Tree) unlink(c api.Call) api.Answer {
	above, x, e := t.entry(c.Path)
	switch {
	case e != api.OK:
		return answer(e)
	case x.dir:
		return answer(api.ErrIsDir)
	}
	t.remove(c.Path, above)
	return api.Answer{}
}

func (t *Tree) rmdir(c api.Call) api.Answer {
	above, x, e := t.entry(c.Path)
	switch {
	case e != api.OK:
		return answer(e)
	case !x.dir:
		return answer(api.ErrNotDir)
	case x.entries > 0:
		return answer(api.ErrBusy)
	}
	t.remove(c.Path, above)
	return api.Answer{}
}

// remove removes what is at the path, and its entry in the directory above.
func (t *Tree) remove(path string, above *item) {
	delete(t.items, path)
	above.entries--
}

func (t *Tree) rename(c api.Call) api.Answer {
	if _, _, e := dirs.Above(c.To); e != api.OK { // ahead of resolving Path
		return answer(e)
	}
	from, x, e := t.entry(c.Path)
	if e == api.OK && x.dir {
		e = movable(c.Path, c.To)
	}
	if e != api.OK {
		return answer(e)
	}
	to, e := t.parent(c.To)
	switch {
	case e != api.OK:
		return answer(e)
	case t.has(c.To):
		return answer(api.ErrThere)
	case to != from && !to.hasRoom():
		return answer(api.ErrBig)
	case to != from && !t.hasBlocks(to.more(dirs.Size)+from.more(-dirs.Size)):
		return answer(api.ErrSpace)
	}
	from.entries--
	to.entries++
	t.move(c.Path, c.To)
	return api.Answer{}
}

// movable returns what is wrong with moving a directory, as the paths show it.
func movable(from, to string) api.Errno {
	if from != to && dirs.Under(to, from) {
		return api.ErrLoop
	}
	old, _ := dirs.Split(from)
	names, _ := dirs.Split(to)
	if len(names) > len(old) { // what is below it might be too deep there
		return api.ErrLong
	}
	return api.OK
}

// move changes the paths of what is at from, and of everything below it.
func (t *Tree) move(from, to string) {
	moved := map[string]*item{}
	for path, x := range t.items {
		if dirs.Under(path, from) {
			moved[to+path[len(from):]] = x
			delete(t.items, path)
		}
	}
	maps.Copy(t.items, moved)
}

func (t *Tree) put(c api.Call) api.Answer {
	if c.Off < 0 || len(c.Data) > api.MaxData {
		return answer(api.ErrArg)
	}
	x, e := t.file(c.Path, c.Off)
	if e != api.OK {
		return answer(e)
	}
	end := c.Off + len(c.Data)
	size := max(end, len(x.data))
	switch {
	case end > maxSize:
		return answer(api.ErrBig)
	case !t.hasBlocks(x.more(size - len(x.data))):
		return answer(api.ErrSpace)
	}
	data := make([]byte, size)
	copy(data, x.data)
	copy(data[c.Off:], c.Data)
	x.data = data
	return api.Answer{}
}

func (t *Tree) get(c api.Call) api.Answer {
	if c.Off < 0 || c.N < 0 || c.N > api.MaxData {
		return answer(api.ErrArg)
	}
	x, e := t.file(c.Path, c.Off)
	if e != api.OK {
		return answer(e)
	}
	rest := x.data[c.Off:]
	return api.Answer{Data: bytes.Clone(rest[:min(c.N, len(rest))])}
}

func (t *Tree) truncate(c api.Call) api.Answer {
	if c.N < 0 {
		return answer(api.ErrArg)
	}
	x, e := t.file(c.Path, c.N)
	if e == api.OK {
		x.data = bytes.Clone(x.data[:c.N])
	}
	return answer(e)
}

func (t *Tree) list(c api.Call) api.Answer {
	x, e := t.resolve(c.Path)
	if e == api.OK && !x.dir {
		e = api.ErrNotDir
	}
	if e != api.OK {
		return answer(e)
	}
	var names []string
	for path := range t.items {
		if above, name, e := dirs.Above(path); e == api.OK && above == c.Path {
			names = append(names, name)
		}
	}
	slices.Sort(names)
	return api.Answer{Names: names}
}

func (t *Tree) stat(c api.Call) api.Answer {
	x, e := t.resolve(c.Path)
	switch {
	case e != api.OK:
		return answer(e)
	case x.dir:
		return api.Answer{Dir: true, Size: x.entries}
	}
	return api.Answer{Size: len(x.data)}
}

// resolve returns what is at the path.
func (t *Tree) resolve(path string) (*item, api.Errno) {
	names, e := dirs.Split(path)
	if e != api.OK {
		return nil, e
	}
	x := t.items[root]
	for at := range names {
		if !x.dir {
			return nil, api.ErrNotDir
		}
		next, ok := t.items[dirs.Join(names[:at+1])]
		if !ok {
			return nil, api.ErrNoEnt
		}
		x = next
	}
	return x, api.OK
}

// file returns the file that is at the path, and has at least so many bytes.
func (t *Tree) file(path string, size int) (*item, api.Errno) {
	x, e := t.resolve(path)
	switch {
	case e != api.OK:
		return nil, e
	case x.dir:
		return nil, api.ErrIsDir
	case size > len(x.data):
		return nil, api.ErrRange
	}
	return x, api.OK
}

// parent returns the directory that has the path's entry, or may get it.
func (t *Tree) parent(path string) (*item, api.Errno) {
	above, _, e := dirs.Above(path)
	if e != api.OK {
		return nil, e
	}
	x, e := t.resolve(above)
	if e == api.OK && !x.dir {
		return nil, api.ErrNotDir
	}
	return x, e
}

// entry returns what is at the path, and the directory that has its entry.
func (t *Tree) entry(path string) (above, x *item, e api.Errno) {
	above, e = t.parent(path)
	if e == api.OK {
		x, e = t.resolve(path)
	}
	return above, x, e
}

func (t *Tree) has(path string) bool {
	_, ok := t.items[path]
	return ok
}

// hasRoom reports whether the directory may get one more entry.
func (x *item) hasRoom() bool {
	return inode.Need(x.size()+dirs.Size) <= api.MaxFile
}

// hasBlocks reports whether the tree may use so many blocks more.
func (t *Tree) hasBlocks(more int) bool {
	return t.Blocks()+more <= t.shape.Blocks
}
