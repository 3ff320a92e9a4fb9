package tree_test

import (
	"strings"
	"testing"

	"catenary/api"
)

// P31.1: Rename of files and directories, with everything below them.
func TestRename(t *testing.T) {
	x := build(t, greatest, mkdir("/d"), mkdir("/d/e"), mk("/d/e/f"), put("/d/e/f", 0, "abc"), mk("/d/g"), mkdir("/h"), mk("/da"))
	does(t, x, mv("/d/g", "/h/g"))
	does(t, x, mv("/d", "/k"))
	has(t, x, "/da", "/h", "/h/g", "/k", "/k/e", "/k/e/f")
	answers(t, x, get("/k/e/f", 0, 9), api.Answer{Data: []byte("abc")})
	answers(t, x, stat("/k"), api.Answer{Dir: true, Size: 1})
	answers(t, x, stat("/h"), api.Answer{Dir: true, Size: 1})
	answers(t, x, stat("/"), api.Answer{Dir: true, Size: 3})
	does(t, x, mv("/k/e", "/e"))
	does(t, x, mv("/e/f", "/k/f"))
	does(t, x, mv("/da", "/da2"))
	has(t, x, "/da2", "/e", "/h", "/h/g", "/k", "/k/f")
	does(t, x, mv("/h/g", "/k/a"))
	does(t, x, mv("/k", "/kk"))
	has(t, x, "/da2", "/e", "/h", "/kk", "/kk/a", "/kk/f")
	fails(t, x, stat("/k/f"), api.ErrNoEnt)
	answers(t, x, get("/kk/f", 0, 9), api.Answer{Data: []byte("abc")})
	does(t, x, put("/kk/f", 3, "d"))
	answers(t, x, stat("/kk/f"), api.Answer{Size: 4})
	if x.Inodes() != 7 || x.Blocks() != 3 { // of /, /kk and /kk/f
		t.Error(x.Inodes(), x.Blocks())
	}
}

// P31.1: ErrName of both paths, ahead of all others; then the errors of resolving Path.
func TestRenameNames(t *testing.T) {
	x := build(t, greatest, mkdir("/d"), mk("/f"))
	for _, no := range append(noPaths(), "/") {
		for _, path := range []string{"/d", "/f", "/x", "/f/x", "/x/y", "/d/x", no} {
			fails(t, x, mv(path, no), api.ErrName)
			fails(t, x, mv(no, path), api.ErrName)
		}
	}
	for _, to := range []string{"/d", "/f", "/x", "/g/h", "/f/x", "/1/2/3/4/5/6/7/8"} {
		fails(t, x, mv("/x", to), api.ErrNoEnt)
		fails(t, x, mv("/x/y", to), api.ErrNoEnt)
		fails(t, x, mv("/d/y", to), api.ErrNoEnt)
		fails(t, x, mv("/f/y", to), api.ErrNotDir)
		fails(t, x, mv("/f/y/z", to), api.ErrNotDir)
	}
}

// P31.1: ErrLoop of a directory below itself, then ErrLong of one that becomes deeper.
func TestRenameDirs(t *testing.T) {
	x := build(t, greatest, mkdir("/d"), mkdir("/d/e"), mk("/d/f"), mkdir("/g"), mk("/h"), mkdir("/dd"))
	for _, to := range []string{"/d/x", "/d/e", "/d/f", "/d/e/x", "/d/f/x", "/d/x/y/z", "/d/1/2/3/4/5/6/7"} {
		fails(t, x, mv("/d", to), api.ErrLoop)
	}
	for _, to := range []string{"/g/d", "/dd/d", "/h/d", "/x/d", "/g/1/2/3/4/5/6/7"} {
		fails(t, x, mv("/d", to), api.ErrLong)
	}
	fails(t, x, mv("/d/e", "/d/e/x"), api.ErrLoop)
	fails(t, x, mv("/d/e", "/g/x/y"), api.ErrLong)
	fails(t, x, mv("/d/e", "/x/y"), api.ErrNoEnt)
	fails(t, x, mv("/d", "/d"), api.ErrThere)
	fails(t, x, mv("/d/e", "/d/e"), api.ErrThere)
	fails(t, x, mv("/d/e", "/d"), api.ErrThere)
	fails(t, x, mv("/h", "/h/x"), api.ErrNotDir)
	fails(t, x, mv("/h", "/h"), api.ErrThere)
	does(t, x, mv("/h", "/d/e/h")) // a file may become deeper
	does(t, x, mv("/d/e", "/g/x"))
	does(t, x, mv("/g/x", "/d2"))
	has(t, x, "/d", "/d/f", "/d2", "/d2/h", "/dd", "/g")
	does(t, x, mv("/d", "/da")) // not below /d, though it begins so
}

// P31.1: the errors of resolving To's parent, then ErrThere.
func TestRenameTo(t *testing.T) {
	x := build(t, greatest, mkdir("/d"), mk("/f"), mk("/g"), mkdir("/d/e"), mk("/d/h"))
	for _, path := range []string{"/f", "/d/e"} {
		fails(t, x, mv(path, "/g/x"), api.ErrNotDir)
		fails(t, x, mv(path, "/x/y"), api.ErrNoEnt)
		fails(t, x, mv(path, "/d"), api.ErrThere)
		fails(t, x, mv(path, "/g"), api.ErrThere)
		fails(t, x, mv(path, "/d/h"), api.ErrThere)
	}
	fails(t, x, mv("/f", "/g/x/y"), api.ErrNotDir)
	fails(t, x, mv("/f", "/d/h/y"), api.ErrNotDir)
	fails(t, x, mv("/f", "/d/x/y"), api.ErrNoEnt)
	fails(t, x, mv("/f", "/d/e/x/y"), api.ErrNoEnt)
	does(t, x, mv("/f", "/d/e/x"))
}

// P31.1: ErrBig if there is no room in To's parent, unless it is Path's; ahead of ErrSpace.
func TestRenameRoom(t *testing.T) {
	x := build(t, greatest, append([]api.Call{mkdir("/d"), mk("/f"), mkdir("/e")}, many("/d", mostInDir)...)...)
	fails(t, x, mv("/f", "/d/a"), api.ErrBig)
	fails(t, x, mv("/f", "/d/n100"), api.ErrThere)
	does(t, x, mv("/d/n100", "/d/zz"))
	does(t, x, mv("/d/n131", "/d/a"))
	answers(t, x, stat("/d"), api.Answer{Dir: true, Size: mostInDir})
	does(t, x, mv("/d/a", "/a"))
	does(t, x, mv("/f", "/d/a"))
	fails(t, x, mv("/a", "/d/b"), api.ErrBig)
	x = build(t, shape(mostInodes, 10), append([]api.Call{mkdir("/d"), mk("/f"), mk("/g"), mk("/h"), mk("/i")}, many("/d", mostInDir)...)...)
	if x.Blocks() != 10 {
		t.Fatal(x.Blocks())
	}
	fails(t, x, mv("/f", "/d/a"), api.ErrBig) // nor would there be a block
}

// P31.1: ErrSpace if the tree would use too many blocks; one that Path's parent no longer needs is there for To's.
func TestRenameSpace(t *testing.T) {
	x := build(t, shape(mostInodes, 3), append(many("", 7), mkdir("/d"), put("/n100", 0, "a"))...)
	fails(t, x, mv("/n100", "/d/a"), api.ErrSpace)
	fails(t, x, mv("/n101", "/d/a"), api.ErrSpace)
	does(t, x, mv("/n100", "/z"))
	does(t, x, rm("/n101"))
	does(t, x, rm("/n102"))
	fails(t, x, mv("/z", "/d/a"), api.ErrSpace) // / still has six entries
	does(t, x, rm("/n103"))
	does(t, x, mv("/z", "/d/a")) // the fifth one: its block is To's now
	if x.Blocks() != 3 {
		t.Error(x.Blocks())
	}
	has(t, x, "/d", "/d/a", "/n104", "/n105", "/n106")
	fails(t, x, put("/d/a", 1, strings.Repeat("a", 64)), api.ErrSpace)
	does(t, x, mv("/n104", "/d/b"))
	does(t, x, mv("/d/a", "/a"))
	does(t, x, mv("/d/b", "/b"))
	if x.Blocks() != 3 { // two of /, and one of /a
		t.Error(x.Blocks(), x.Paths())
	}
}
