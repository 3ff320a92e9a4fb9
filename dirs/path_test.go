package dirs_test

import (
	"math/rand"
	"slices"
	"strings"
	"testing"

	"catenary/api"
	"catenary/dirs"
)

const deepest = 8 // names of a path

// paths are paths, with their names.
func paths() map[string][]string {
	m := map[string][]string{
		"/": nil, "/a": {"a"}, "/a/b": {"a", "b"}, "/a/a": {"a", "a"}, "/...": {"..."}, "/.a/-/_": {".a", "-", "_"}, "/ab": {"ab"}, "/abcdefghijk/0": {"abcdefghijk", "0"},
		"/1/2/3/4/5/6/7": {"1", "2", "3", "4", "5", "6", "7"}, "/1/2/3/4/5/6/7/8": {"1", "2", "3", "4", "5", "6", "7", "8"},
	}
	longest := slices.Repeat([]string{"zzzzzzzzzzz"}, deepest)
	m["/"+strings.Join(longest, "/")] = longest
	for _, name := range goodNames {
		m["/"+name] = []string{name}
		m["/"+name+"/b"] = []string{name, "b"}
	}
	return m
}

// noPaths are texts that are no paths.
func noPaths() []string {
	l := []string{
		"", "a", "a/", "a/b", "//", "///", "/a/", "//a", "/a//b", "/a/b/", "/a//", ".", "..", "/.", "/..", "/./a", "/a/..", "/a/./b", "/../a", " /a", "/a ", "/a b", "/A", "/a/B", "\\a", "/a\\b", "/a\x00", "\x00/a", "/é", "/\xff", "/a/\xc3", "\xff",
		"/1/2/3/4/5/6/7/8/9", "/1/2/3/4/5/6/7/8/", "/1/2/3/4/5/6/7//8", "1/2/3/4/5/6/7/8", "//1/2/3/4/5/6/7/8", "/1/2/3/4/5/6/7/8/9/10", "/1/2/3/4/5/6/7/8/9/", "/abcdefghijkl", "/a/abcdefghijkl", "/1/2/3/4/5/6/7/abcdefghijkl",
		strings.Repeat("/", 1000), strings.Repeat("/a", 9), strings.Repeat("/a", 1000), "/" + strings.Repeat("a", 1000), strings.Repeat("a", 100),
	}
	for _, name := range noNames() {
		if name != "" && !strings.Contains(name, "/") {
			l = append(l, name, "/"+name, "/a/"+name, "/"+name+"/a")
		}
	}
	return l
}

// randomPath returns a path, and its names.
func randomPath(r *rand.Rand) (string, []string) {
	path := ""
	var names []string
	for range r.Intn(deepest + 1) {
		names = append(names, randomName(r))
		path += "/" + names[len(names)-1]
	}
	if path == "" {
		path = "/"
	}
	return path, names
}

// P29.3: the names of a path, in order; ErrName of what is none.
func TestSplit(t *testing.T) {
	for path, want := range paths() {
		if got, e := dirs.Split(path); e != api.OK || !slices.Equal(got, want) {
			t.Errorf("%q is %q, %d", path, got, int(e))
		}
	}
	for _, path := range noPaths() {
		if got, e := dirs.Split(path); e != api.ErrName || len(got) != 0 {
			t.Errorf("%q is %q, %d", path, got, int(e))
		}
	}
	for n := range 20 {
		got, e := dirs.Split(strings.Repeat("/a", n))
		if right := n >= 1 && n <= deepest; (e == api.OK) != right || right && len(got) != n {
			t.Error(n, "names are", got, int(e))
		}
	}
}

// P29.3: each name behind a /, whatever it is; / of none.
func TestJoin(t *testing.T) {
	for path, names := range paths() {
		if got := dirs.Join(names); got != path {
			t.Errorf("%q is %q", names, got)
		}
	}
	for want, names := range map[string][]string{
		"/": {""}, "//": {"", ""}, "//a": {"", "a"}, "/a/": {"a", ""}, "/./..": {".", ".."}, "/A b/\x00/\xff": {"A b", "\x00", "\xff"}, "//a//b/": {"/a", "/b/"},
		"/1/2/3/4/5/6/7/8/9/10": {"1", "2", "3", "4", "5", "6", "7", "8", "9", "10"}, "/a/b": {"a/b"}, "/abcdefghijklmn": {"abcdefghijklmn"},
	} {
		was := slices.Clone(names)
		if got := dirs.Join(names); got != want {
			t.Errorf("%q is %q, want %q", names, got, want)
		}
		if !slices.Equal(names, was) {
			t.Error("the names were changed", names)
		}
	}
	if got := dirs.Join([]string{}); got != "/" {
		t.Errorf("none is %q", got)
	}
	if got := dirs.Join(slices.Repeat([]string{"a"}, 3000)); got != strings.Repeat("/a", 3000) {
		t.Error(len(got))
	}
}

// P29.3: the path without its last name, and that name; the chapter's example ahead.
func TestAbove(t *testing.T) {
	for path, want := range map[string][2]string{
		"/a/b": {"/a", "b"}, "/a": {"/", "a"}, "/a/a": {"/a", "a"}, "/a/b/c": {"/a/b", "c"}, "/.../..a": {"/...", "..a"}, "/ab/a": {"/ab", "a"},
		"/1/2/3/4/5/6/7/8": {"/1/2/3/4/5/6/7", "8"}, "/abcdefghijk": {"/", "abcdefghijk"},
	} {
		if above, name, e := dirs.Above(path); e != api.OK || above != want[0] || name != want[1] {
			t.Errorf("%q is %q, %q, %d", path, above, name, int(e))
		}
	}
	for _, path := range append(noPaths(), "/") {
		if above, name, e := dirs.Above(path); e != api.ErrName || above != "" || name != "" {
			t.Errorf("%q is %q, %q, %d", path, above, name, int(e))
		}
	}
}

// P29.3: whether a path is another one, or below it; the chapter's examples ahead.
func TestUnder(t *testing.T) {
	check := func(path, top string, want bool) {
		t.Helper()
		if got := dirs.Under(path, top); got != want {
			t.Errorf("%q under %q is %t", path, top, got)
		}
	}
	check("/a/b", "/a", true)
	check("/ab", "/a", false)
	for path := range paths() {
		check(path, path, true)
		check(path, "/", true)
		check("/", path, path == "/")
	}
	check("/a", "/ab", false)
	check("/a", "/a/b", false)
	check("/a/b/c", "/a/b", true)
	check("/a/b/c", "/a/c", false)
	check("/a/b/c", "/b", false)
	check("/a/b/c", "/b/c", false)
	check("/b/a", "/a", false)
	check("/a/bc", "/a/b", false)
	check("/a.b", "/a", false)
	check("/1/2/3/4/5/6/7/8", "/1/2/3/4/5/6/7", true)
	check("/1/2/3/4/5/6/7/8", "/1/2/3/4/5/6/8", false)
	for _, no := range noPaths() {
		for path := range paths() {
			check(no, path, false)
			check(path, no, false)
		}
		check(no, no, false)
	}
}

// P29.4: what is split is joined; Above and Under are as of the names.
func TestSplitAndJoin(t *testing.T) {
	r := rand.New(rand.NewSource(296))
	for range 3000 {
		path, names := randomPath(r)
		got, e := dirs.Split(path)
		if e != api.OK || !slices.Equal(got, names) || dirs.Join(got) != path {
			t.Fatalf("%q is %q, %d", path, got, int(e))
		}
		top := ""
		for _, name := range names {
			if above, last, e := dirs.Above(top + "/" + name); e != api.OK || above != max(top, "/") || last != name {
				t.Fatalf("%q is %q, %q, %d", top+"/"+name, above, last, int(e))
			}
			if !dirs.Under(path, top+"/"+name) {
				t.Fatalf("%q is not under %q", path, top+"/"+name)
			}
			top += "/" + name
			if other := top + "x"; dirs.Under(path, other) {
				t.Fatalf("%q is under %q", path, other)
			}
		}
		clear(got)
		if again, _ := dirs.Split(path); !slices.Equal(again, names) {
			t.Fatalf("%q is %q now", path, again)
		}
	}
}
