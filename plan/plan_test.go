package plan_test

import (
	"bytes"
	"math"
	"math/rand"
	"slices"
	"strings"
	"testing"

	"catenary/api"
	"catenary/plan"
	"catenary/tree"
	"catenary/vol"
)

// keysOf returns the keys that are written.
func keysOf(l []vol.Patch) []uint32 {
	var keys []uint32
	for _, p := range l {
		keys = append(keys, p.Key)
	}
	return keys
}

// must holds what a call answers, and which keys it writes.
func (v *volume) must(c api.Call, want api.Errno, keys ...uint32) {
	v.t.Helper()
	p := v.do(c)
	if p.Answer.Code != want || !slices.Equal(keysOf(p.Patches), keys) {
		v.t.Error(c, "is", p, "want", int(want), "and the keys", keys)
	}
	v.check()
}

// P32.2: the chapter's example.
func TestExample(t *testing.T) {
	v := newVolume(t, shape(4, 8))
	v.check()
	p := v.do(mk("/a"))
	if len(p.Patches) != 4 || !slices.Equal(keysOf(p.Patches)[:2], []uint32{1, 2}) {
		t.Fatal(p)
	}
	node, block := p.Patches[2].Key, p.Patches[3].Key
	if kind, _ := vol.What(v.shape, node); kind != 3 {
		t.Error("no inode is written, but", node)
	}
	if kind, _ := vol.What(v.shape, block); kind != 4 {
		t.Error("no block is written, but", block)
	}
	v.check()
	if p := v.do(ls("/")); !slices.Equal(p.Answer.Names, []string{"a"}) || len(p.Patches) != 0 {
		t.Error(p)
	}
}

// P32.2: call by call, the answers and the keys that are written; least inodes and blocks are taken.
func TestCalls(t *testing.T) {
	v := newVolume(t, shape(6, 8)) // the inodes have the keys 2 to 7, the blocks 8 to 15
	v.must(mkdir("/d"), api.OK, 1, 2, 3, 8)
	v.must(mk("/d/f"), api.OK, 1, 3, 4, 9)
	v.must(put("/d/f", 0, ""), api.OK)
	v.must(put("/d/f", 0, "abcdef"), api.OK, 1, 4, 10)
	v.must(put("/d/f", 2, "xy"), api.OK, 10)
	v.must(put("/d/f", 6, "end"), api.OK, 4, 10)
	v.must(put("/d/f", 9, strings.Repeat("z", 120)), api.OK, 1, 4, 10, 11, 12)
	v.must(put("/d/f", 60, strings.Repeat("w", 69)), api.OK, 10, 11, 12)
	v.must(get("/d/f", 60, maxData), api.OK)
	v.must(cut("/d/f", 129), api.OK)
	v.must(cut("/d/f", 128), api.OK, 1, 4)
	v.must(cut("/d/f", 3), api.OK, 1, 4, 10)
	v.must(cut("/d/f", 0), api.OK, 1, 4)
	v.must(put("/d/f", 0, "new"), api.OK, 1, 4, 10)
	v.must(stat("/d/f"), api.OK)
	v.must(mv("/d/f", "/d/g"), api.OK, 9)
	v.must(mv("/d/g", "/f"), api.OK, 1, 2, 3, 8)
	v.must(rm("/d"), api.ErrIsDir)
	v.must(rmdir("/d"), api.OK, 1, 2, 3, 8)
	v.must(rm("/f"), api.OK, 1, 2, 4)
	v.must(mk("/f"), api.OK, 1, 2, 3, 8)
	v.must(stat("/"), api.OK)
	if v.tree.Inodes() != 2 || v.tree.Blocks() != 1 {
		t.Error(v.tree.Inodes(), v.tree.Blocks())
	}
}

// P32.2: the volume that is not valid is ahead of everything else.
func TestShapes(t *testing.T) {
	whole := newVolume(t, greatest, mk("/a")).whole()
	for _, n := range []int{0, -1, 97, 1 << 32, 1<<32 + 1, math.MinInt, math.MaxInt} {
		for _, s := range []vol.Shape{shape(n, 8), shape(4, n), shape(mostInodes+1, 4)} {
			for kind := -1; kind < 13; kind++ {
				for _, v := range []*plan.View{nil, plan.New(), whole} {
					for _, path := range []string{"/a", "/", ""} {
						if p := plan.Make(s, v, api.Call{Kind: kind, Path: path, To: "/b"}); !samePlan(p, plan.Plan{Answer: api.Answer{Code: api.ErrArg}}) {
							t.Error(s, kind, path, "is", p)
						}
					}
				}
			}
		}
	}
}

// invalid are calls with kinds or arguments that are not valid, and what they answer.
func invalid() map[api.Errno][]api.Call {
	long := strings.Repeat("x", maxData+1)
	m := map[api.Errno][]api.Call{api.ErrArg: {{}, {Kind: -1}, {Kind: 11, Path: "/a"}, {Kind: math.MinInt, Path: "/a"}, {Kind: math.MaxInt, Path: "/a", To: "/b"}, {Kind: 1<<32 + 1, Path: "/a"}}}
	for _, path := range []string{"/a", "/x/y", "/", "", "a", "/A"} {
		m[api.ErrArg] = append(m[api.ErrArg], put(path, -1, "a"), put(path, 0, long), put(path, math.MinInt, ""), get(path, -1, 1), get(path, 0, -1), get(path, 9999, maxData+1), get(path, 0, math.MaxInt), cut(path, -1), cut(path, math.MinInt))
	}
	for _, no := range []string{"", "a", "//", "/a/", "/.", "/A", "/\xff", "/abcdefghijkl", "/1/2/3/4/5/6/7/8/9", strings.Repeat("/a", 300)} {
		m[api.ErrName] = append(m[api.ErrName], mk(no), mkdir(no), rm(no), rmdir(no), mv(no, "/b"), mv("/a", no), mv("/x/y", no), mv(no, no), put(no, 0, "a"), put(no, 9999, "a"), get(no, 9999, 1), cut(no, 9999), ls(no), stat(no))
	}
	m[api.ErrName] = append(m[api.ErrName], mk("/"), mkdir("/"), rm("/"), rmdir("/"), mv("/", "/a"), mv("/a", "/"), mv("/", "/"))
	return m
}

// P32.2: for invalid kinds and arguments the answer is the tree's, whatever the view has.
func TestInvalid(t *testing.T) {
	v := newVolume(t, shape(4, 8), mk("/a"))
	wrong := plan.New()
	for key := uint32(0); key < 20; key++ {
		wrong.Know(key, 1, []byte{255, 255, 255})
	}
	for want, l := range invalid() {
		for _, c := range l {
			if a := v.tree.Do(c); a.Code != want {
				t.Fatal(c, "is", a, "for the tree, want", int(want))
			}
			for _, x := range []*plan.View{nil, plan.New(), v.whole(), wrong} {
				if p := plan.Make(v.shape, x, c); !samePlan(p, plan.Plan{Answer: api.Answer{Code: want}}) {
					t.Error(c, "is", p, "want", int(want))
				}
			}
		}
	}
}

// P32.2: a plan with a nil view lacks what an empty one does.
func TestNilLacks(t *testing.T) {
	for _, c := range []api.Call{mk("/a"), mkdir("/a"), rm("/a"), rmdir("/a"), mv("/a", "/b"), put("/a", 0, "a"), get("/a", 0, 1), cut("/a", 0), ls("/"), stat("/")} {
		p, q := plan.Make(greatest, nil, c), plan.Make(greatest, plan.New(), c)
		if !p.Lacks || !samePlan(p, q) {
			t.Error(c, "is", p, "and with an empty view", q)
		}
		if kind, _ := vol.What(greatest, p.Key); kind < 2 || !samePlan(p, plan.Plan{Lacks: true, Key: p.Key}) {
			t.Error(c, "is", p)
		}
	}
}

// P32.2: the root block is never needed, nor is a key that is not the volume's; what the view has of them has no effect.
func TestOtherKeys(t *testing.T) {
	v := newVolume(t, shape(4, 8), mkdir("/d"), mk("/d/a"), put("/d/a", 0, "abc"))
	for _, c := range []api.Call{mk("/d/b"), rm("/d/a"), mv("/d/a", "/a"), put("/d/a", 3, "d"), get("/d/a", 0, 9), ls("/d"), stat("/")} {
		x := v.whole()
		want := plan.Make(v.shape, x, c)
		for _, key := range []uint32{0, v.last() + 1, 100, math.MaxUint32} {
			x.Know(key, 9, []byte{255})
		}
		if p := plan.Make(v.shape, x, c); !samePlan(p, want) || p.Lacks {
			t.Error(c, "is", p, "want", want)
		}
	}
}

// P32.2: no plan has more patches than an intent may have, not even the one that moves between directories that are full.
func TestMostPatches(t *testing.T) {
	v := newVolume(t, greatest, mkdir("/d"), mkdir("/e"))
	for _, c := range append(many("/d", mostInDir), many("/e", mostInDir-4)...) {
		v.do(c)
	}
	p := v.do(mv("/d/n100", "/e/a")) // every entry of both moves, and /e needs one more block
	if len(p.Patches) != 19 || p.Answer.Code != api.OK {
		t.Error(len(p.Patches), p.Answer)
	}
	v.check()
	if p := v.do(mv("/e/a", "/d/a")); p.Answer.Code != api.OK || len(p.Patches) < 10 {
		t.Error(len(p.Patches), p.Answer)
	}
	v.check()
}

// P32.2: a file of as many bytes as there may be, and not of more.
func TestFullFile(t *testing.T) {
	v := newVolume(t, shape(2, 9), mk("/a"))
	long := strings.Repeat("x", maxData)
	for off := 0; off < maxSize; off += maxData {
		v.do(put("/a", off, long))
	}
	v.check()
	for _, x := range []struct {
		c    api.Call
		want api.Errno
	}{
		{put("/a", maxSize, "a"), api.ErrBig}, {put("/a", maxSize-1, "ab"), api.ErrBig}, {put("/a", maxSize-maxData+1, long), api.ErrBig}, {put("/a", maxSize+1, ""), api.ErrRange},
		{put("/a", maxSize, ""), api.OK}, {put("/a", maxSize-1, "y"), api.OK}, {put("/a", maxSize-maxData, long), api.OK},
		{get("/a", maxSize-3, maxData), api.OK}, {get("/a", maxSize, maxData), api.OK}, {get("/a", maxSize+1, 0), api.ErrRange}, {cut("/a", maxSize+1), api.ErrRange}, {cut("/a", maxSize), api.OK},
	} {
		if p := v.do(x.c); p.Answer.Code != x.want {
			t.Error(x.c, "is", p, "want", int(x.want))
		}
		v.check()
	}
}

// P32.2: what a full directory answers, as the tree does.
func TestFullDirs(t *testing.T) {
	for _, dir := range []string{"", "/d"} {
		v := newVolume(t, greatest, mkdir("/d"), mkdir("/d/e"), mk("/d/e/f"))
		if dir == "" {
			v.do(mv("/d/e", "/e"))
			v.do(rmdir("/d"))
			v.do(mv("/e", "/d"))
		}
		for k := 1; k < mostInDir; k++ {
			v.do(many(dir, mostInDir)[k])
		}
		from := "/d/f"
		if dir == "/d" {
			from = "/d/e/f"
		}
		for _, c := range []api.Call{mk(dir + "/z"), mkdir(dir + "/a"), mv(from, dir+"/a")} {
			if p := v.do(c); p.Answer.Code != api.ErrBig || len(p.Patches) != 0 {
				t.Error(c, "is", p)
			}
		}
		for _, c := range []api.Call{mv(dir+"/n101", dir+"/z"), mv(dir+"/z", dir+"/a"), rm(dir + "/n105"), mv(from, dir+"/b")} {
			if p := v.do(c); p.Answer.Code != api.OK {
				t.Error(c, "is", p)
			}
			v.check()
		}
	}
}

// P32.2: a block that one directory gives back is there for another one.
func TestMoveBlock(t *testing.T) {
	v := newVolume(t, shape(10, 2), mkdir("/d"))
	for _, c := range many("", 4) {
		v.do(c)
	}
	if v.tree.Blocks() != 2 {
		t.Fatal(v.tree.Blocks())
	}
	v.must(put("/n100", 0, "a"), api.ErrSpace)
	v.must(mk("/d/a"), api.ErrSpace)
	v.must(mk("/n104"), api.OK, 1, 2, 8, 13)
	if p := v.do(mv("/n104", "/d/a")); p.Answer.Code != api.ErrSpace || len(p.Patches) != 0 { // / has six entries
		t.Error(p)
	}
	v.must(rm("/n104"), api.OK, 1, 2, 8, 13)
	v.must(mv("/n103", "/d/a"), api.OK, 2, 3, 13) // it was the last one of the second block of /
	v.must(mv("/d/a", "/a"), api.OK, 2, 3, 12, 13)
}

// P32.2: what a file's blocks had before is not seen in a file that takes them.
func TestTakenBlocks(t *testing.T) {
	v := newVolume(t, shape(4, 8), mk("/a"), put("/a", 0, strings.Repeat("a", maxData)), put("/a", maxData, strings.Repeat("b", maxData)), rm("/a"), mk("/b"))
	v.check()
	v.do(put("/b", 0, "c"))
	v.check()
	v.do(put("/b", 1, strings.Repeat("d", 70)))
	v.check()
	v.do(cut("/b", 65))
	v.do(cut("/b", 60))
	v.check()
	v.do(put("/b", 60, strings.Repeat("e", 5)))
	if p := v.do(get("/b", 0, maxData)); string(p.Answer.Data) != "c"+strings.Repeat("d", 59)+"eeeee" {
		t.Error(p)
	}
	v.check()
}

// P32.2: the Ver of each patch is the version that the view has.
func TestVersions(t *testing.T) {
	v := newVolume(t, shape(4, 8))
	x := plan.New()
	for key := uint32(1); key <= v.last(); key++ {
		x.Know(key, uint64(key)*1000, nil)
	}
	p := plan.Make(v.shape, x, mk("/a"))
	if len(p.Patches) != 4 {
		t.Fatal(p)
	}
	for _, q := range p.Patches {
		if q.Ver != uint64(q.Key)*1000 {
			t.Error(q)
		}
	}
}

// Rule 5: a plan changes neither the view nor the call, and shares no memory with them.
func TestPlanMemory(t *testing.T) {
	v := newVolume(t, shape(4, 8), mk("/a"), put("/a", 0, "abcdef"))
	was := v.whole()
	x := v.whole()
	c := put("/a", 3, "xyz!")
	for range 2 {
		p := plan.Make(v.shape, x, c)
		if p.Answer.Code != api.OK || len(p.Patches) != 2 {
			t.Fatal(p)
		}
		for _, q := range p.Patches {
			_ = append(q.Data[:1], "zz"...)
			clear(q.Data)
		}
		clear(p.Patches)
		clear(plan.Make(v.shape, x, get("/a", 0, 6)).Answer.Data)
		clear(plan.Make(v.shape, x, ls("/")).Answer.Names)
		if string(c.Data) != "xyz!" {
			t.Fatal("the data were changed", c)
		}
	}
	for _, key := range was.Keys() {
		ver, data, _ := was.Knows(key)
		knows(t, x, key, ver, string(data), true)
	}
	p := plan.Make(v.shape, x, c)
	clear(c.Data)
	if last := p.Patches[1].Data; !bytes.HasPrefix(last, []byte("abcxyz!\x00")) {
		t.Error("the data were kept", last)
	}
}

// P32.3: on random calls from an empty volume on, the answers are the tree's, and the volume holds it.
func TestTheorem(t *testing.T) {
	r := rand.New(rand.NewSource(323))
	seen := map[[2]int]int{} // kinds and codes
	for round := range 240 {
		s := shape(1+r.Intn(mostInodes), 1+r.Intn(mostBlocks))
		if round%3 == 0 {
			s = shape(mostInodes-r.Intn(3), mostBlocks-r.Intn(3))
		}
		if round%3 == 1 {
			s = shape(mostInodes, 1+r.Intn(8))
		}
		v := newVolume(t, s)
		for at := range 200 {
			c := v.random(r, round%10, round/10%3*4)
			p := v.do(c)
			seen[[2]int{c.Kind, int(p.Answer.Code)}]++
			if at%5 == 0 {
				v.check()
			}
		}
		v.check()
	}
	for kind, l := range map[int][]api.Errno{
		api.Make: {0, 14, 13, 8, 17, 16}, api.MakeDir: {0, 14, 13, 8, 17, 16}, api.Unlink: {0, 14, 13, 15}, api.Rmdir: {0, 14, 13, 19},
		api.Rename: {0, 14, 13, 21, 6, 8, 17, 16}, api.Put: {0, 14, 13, 15, 20, 17, 16}, api.Get: {0, 14, 13, 15, 20}, api.Truncate: {0, 14, 13, 15, 20}, api.List: {0, 14, 13}, api.Stat: {0, 14, 13},
	} {
		for _, e := range l {
			if seen[[2]int{kind, int(e)}] == 0 {
				t.Error("no call of the kind", kind, "was", int(e))
			}
		}
	}
}

// P32.3: what was made and removed again leaves an empty volume.
func TestEmptied(t *testing.T) {
	r := rand.New(rand.NewSource(324))
	for range 20 {
		v := newVolume(t, greatest)
		for range 150 {
			v.do(v.random(r, 6, 0))
		}
		v.empty()
		v.check()
		if v.tree.Inodes() != 1 || v.tree.Blocks() != 0 {
			t.Fatal(v.tree.Paths())
		}
	}
}

// empty removes everything, what is below a directory ahead of that.
func (v *volume) empty() {
	paths := v.tree.Paths()
	slices.Reverse(paths)
	slices.SortStableFunc(paths, func(a, b string) int { return strings.Count(b, "/") - strings.Count(a, "/") })
	for _, path := range paths {
		if a := v.tree.Do(stat(path)); path != "/" && a.Dir {
			v.do(rmdir(path))
		} else if path != "/" {
			v.do(rm(path))
		}
	}
}

// random returns a call; grow of ten make something, and narrow of ten do it in /, or in the last file.
func (v *volume) random(r *rand.Rand, grow, narrow int) api.Call {
	there := v.tree.Paths()
	c := api.Call{Kind: 1 + r.Intn(10), Path: randomPath(r, there), To: randomPath(r, there)}
	if r.Intn(10) < grow {
		c.Kind = []int{api.Make, api.Make, api.MakeDir, api.Put}[r.Intn(4)]
	}
	if r.Intn(10) < narrow {
		c.To = many("", 90)[r.Intn(90)].Path
		switch c.Kind {
		case api.Make, api.MakeDir:
			c.Path = many("", 90)[r.Intn(90)].Path
		case api.Put:
			c.Path = there[len(there)-1]
		}
	}
	c.N = r.Intn(maxData + 1)
	if c.Kind == api.Truncate {
		c.N = r.Intn(r.Intn(maxSize+1) + 1)
	}
	switch b, _ := v.tree.File(c.Path); r.Intn(3) {
	case 0:
		c.Off = r.Intn(r.Intn(maxSize+8) + 1)
	case 1:
		c.Off = len(b)
	}
	c.Data = make([]byte, r.Intn(maxData+1))
	r.Read(c.Data)
	return c
}

// randomPath returns a path of few names, mostly one that there is, or one just below.
func randomPath(r *rand.Rand, there []string) string {
	names := []string{"a", "b", "c", "a.b", "a-", "0", "abcdefghijk"}
	one := there[r.Intn(len(there))]
	below := strings.TrimSuffix(one, "/") + "/" + names[r.Intn(len(names))]
	switch at := r.Intn(10); {
	case at < 3 && strings.Count(below, "/") <= api.MaxDepth:
		return below
	case at < 6:
		path := ""
		for range 1 + r.Intn(3) {
			path += "/" + names[r.Intn(len(names))]
		}
		return path
	}
	return one
}

// P32.2: whatever is planned with less than everything lacks a block, or is planned as with everything.
func TestSomeKnown(t *testing.T) {
	r := rand.New(rand.NewSource(325))
	for range 30 {
		v := newVolume(t, shape(8+r.Intn(20), 20+r.Intn(50)))
		for range 60 {
			c := v.random(r, 5, 0)
			some, all := plan.New(), v.whole()
			for _, key := range all.Keys() {
				if ver, data, _ := all.Knows(key); r.Intn(2) == 0 {
					some.Know(key, ver, data)
				}
			}
			p := plan.Make(v.shape, some, c)
			if want := plan.Make(v.shape, all, c); !p.Lacks && !samePlan(p, want) {
				t.Fatal(c, "is", p, "want", want)
			}
			if _, _, there := some.Knows(p.Key); p.Lacks && there {
				t.Fatal(c, "lacks", p.Key, "which is known")
			}
			if !samePlan(p, plan.Make(v.shape, some, c)) || tree.Turns(c.Kind) && p.Lacks && len(p.Patches) > 0 {
				t.Fatal(c, "is another plan each time")
			}
			v.do(c)
		}
	}
}
