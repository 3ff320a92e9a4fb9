package plan

import (
	"catenary/api"
	"catenary/dirs"
	"catenary/inode"
)

const maxSize = api.MaxFile * api.Block // of a file, or a directory

// place is where a path is, or may be: a directory, the entries of that, and a name.
type place struct {
	dir  item
	list []dirs.Entry
	name string
}

// do returns the answer of the call, and writes what it changes.
func (w *work) do(c api.Call) api.Answer {
	calls := [...]func(*work, api.Call) api.Answer{
		api.Make:     (*work).makeFile,
		api.MakeDir:  (*work).makeDir,
		api.Unlink:   (*work).unlink,
		api.Rmdir:    (*work).rmdir,
		api.Rename:   (*work).rename,
		api.Put:      (*work).put,
		api.Get:      (*work).get,
		api.Truncate: (*work).truncate,
		api.List:     (*work).list,
		api.Stat:     (*work).stat,
	}
	if c.Kind < api.Make || c.Kind > api.Stat {
		return code(api.ErrArg)
	}
	return calls[c.Kind](w, c)
}

func (w *work) makeFile(c api.Call) api.Answer {
	return code(w.create(c.Path, inode.File))
}

func (w *work) makeDir(c api.Call) api.Answer {
	return code(w.create(c.Path, inode.Dir))
}

// create makes an empty file, or directory.
func (w *work) create(path string, mode int) api.Errno {
	p, e := w.place(path)
	switch {
	case e != api.OK:
		return e
	case p.taken():
		return api.ErrThere
	case !p.hasRoom():
		return api.ErrBig
	}
	no, e := w.takeNode()
	if e != api.OK {
		return e
	}
	x, e := inode.Of(mode, 0, nil)
	must(e)
	w.keep(item{no: no, node: x})
	return w.enter(p, no)
}

func (w *work) unlink(c api.Call) api.Answer {
	p, x, e := w.entry(c.Path)
	switch {
	case e != api.OK:
		return code(e)
	case x.node.Mode == inode.Dir:
		return code(api.ErrIsDir)
	}
	w.remove(p, x)
	return api.Answer{}
}

func (w *work) rmdir(c api.Call) api.Answer {
	p, x, e := w.entry(c.Path)
	if e != api.OK {
		return code(e)
	}
	l, e := w.entries(x)
	switch {
	case e != api.OK:
		return code(e)
	case len(l) > 0:
		return code(api.ErrBusy)
	}
	w.remove(p, x)
	return api.Answer{}
}

func (w *work) rename(c api.Call) api.Answer {
	if _, _, e := dirs.Above(c.To); e != api.OK { // ahead of resolving Path
		return code(e)
	}
	from, x, e := w.entry(c.Path)
	if e == api.OK && x.node.Mode == inode.Dir {
		e = movable(c.Path, c.To)
	}
	if e != api.OK {
		return code(e)
	}
	to, e := w.place(c.To)
	inside := to.dir.no == from.dir.no
	switch {
	case e != api.OK:
		return code(e)
	case to.taken():
		return code(api.ErrThere)
	case !inside && !to.hasRoom():
		return code(api.ErrBig)
	}
	from.list = without(from)
	if inside {
		to.list = from.list
	} else {
		must(w.putEntries(from.dir, from.list)) // ahead of To's, which may need the block that this gives back
	}
	return code(w.enter(to, x.no))
}

// movable returns what is wrong with moving a directory, as the paths show it.
func movable(from, to string) api.Errno {
	if from != to && dirs.Under(to, from) {
		return api.ErrLoop
	}
	old, _ := dirs.Split(from)
	names, _ := dirs.Split(to)
	if len(names) > len(old) {
		return api.ErrLong
	}
	return api.OK
}

func (w *work) put(c api.Call) api.Answer {
	if c.Off < 0 || len(c.Data) > api.MaxData {
		return code(api.ErrArg)
	}
	x, e := w.file(c.Path, c.Off)
	if e != api.OK {
		return code(e)
	}
	end := c.Off + len(c.Data)
	if end > maxSize {
		return code(api.ErrBig)
	}
	if x, e = w.resize(x, max(end, x.node.Size)); e != api.OK {
		return code(e)
	}
	w.fill(x.node, c.Off, c.Data)
	return api.Answer{}
}

func (w *work) get(c api.Call) api.Answer {
	if c.Off < 0 || c.N < 0 || c.N > api.MaxData {
		return code(api.ErrArg)
	}
	x, e := w.file(c.Path, c.Off)
	if e != api.OK {
		return code(e)
	}
	return api.Answer{Data: w.content(x.node, c.Off, min(c.N, x.node.Size-c.Off))}
}

func (w *work) truncate(c api.Call) api.Answer {
	if c.N < 0 {
		return code(api.ErrArg)
	}
	x, e := w.file(c.Path, c.N)
	if e != api.OK {
		return code(e)
	}
	x, e = w.resize(x, c.N)
	must(e)                            // it takes no blocks
	if at := c.N % api.Block; at > 0 { // what was behind this size becomes zero bytes
		w.fillPiece(x.node, piece{index: c.N / api.Block, at: at})
	}
	return api.Answer{}
}

func (w *work) list(c api.Call) api.Answer {
	x, e := w.resolve(c.Path)
	if e != api.OK {
		return code(e)
	}
	l, e := w.entries(x)
	if e != api.OK {
		return code(e)
	}
	return api.Answer{Names: dirs.Names(l)}
}

func (w *work) stat(c api.Call) api.Answer {
	x, e := w.resolve(c.Path)
	switch {
	case e != api.OK:
		return code(e)
	case x.node.Mode == inode.File:
		return api.Answer{Size: x.node.Size}
	}
	l, e := w.entries(x)
	must(e)
	return api.Answer{Dir: true, Size: len(l)}
}

// resolve returns what is at the path.
func (w *work) resolve(path string) (item, api.Errno) {
	names, e := dirs.Split(path)
	if e != api.OK {
		return item{}, e
	}
	x := w.item(rootNode)
	for _, name := range names {
		l, e := w.entries(x)
		if e != api.OK {
			return item{}, e
		}
		no, ok := dirs.Find(l, name)
		if !ok {
			return item{}, api.ErrNoEnt
		}
		x = w.item(no)
	}
	return x, api.OK
}

// file returns the file that is at the path, and has at least so many bytes.
func (w *work) file(path string, size int) (item, api.Errno) {
	x, e := w.resolve(path)
	switch {
	case e != api.OK:
		return item{}, e
	case x.node.Mode == inode.Dir:
		return item{}, api.ErrIsDir
	case size > x.node.Size:
		return item{}, api.ErrRange
	}
	return x, api.OK
}

// place returns where the path is, or may be.
func (w *work) place(path string) (place, api.Errno) {
	above, name, e := dirs.Above(path)
	if e != api.OK {
		return place{}, e
	}
	dir, e := w.resolve(above)
	if e != api.OK {
		return place{}, e
	}
	l, e := w.entries(dir)
	return place{dir: dir, list: l, name: name}, e
}

// entry returns what is at the path, and where that is.
func (w *work) entry(path string) (place, item, api.Errno) {
	p, e := w.place(path)
	if e != api.OK {
		return place{}, item{}, e
	}
	no, ok := dirs.Find(p.list, p.name)
	if !ok {
		return place{}, item{}, api.ErrNoEnt
	}
	return p, w.item(no), api.OK
}

// taken reports whether there is something at the place.
func (p place) taken() bool {
	_, ok := dirs.Find(p.list, p.name)
	return ok
}

// hasRoom reports whether the directory may get one more entry.
func (p place) hasRoom() bool {
	return inode.Need((len(p.list)+1)*dirs.Size) <= api.MaxFile
}

// without returns the entries of the directory, but the one of the place.
func without(p place) []dirs.Entry {
	l, e := dirs.Remove(p.list, p.name)
	must(e)
	return l
}

// enter adds the entry of the place.
func (w *work) enter(p place, no int) api.Errno {
	l, e := dirs.Add(p.list, dirs.Entry{Name: p.name, Node: no})
	must(e)
	return w.putEntries(p.dir, l)
}

// remove removes what is at the place, and its entry.
func (w *work) remove(p place, x item) {
	must(w.putEntries(p.dir, without(p)))
	w.giveItem(x)
}
