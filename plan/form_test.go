package plan_test

import (
	"math/rand"
	"slices"
	"strings"
	"testing"

	"catenary/api"
	"catenary/plan"
	"catenary/tree"
	"catenary/vol"
)

// A volume with /d, /d/f (200 bytes), /g and the directory /e, which are the inodes 2 to 5; its blocks begin at the key 10.
const (
	bitmapKey = 1
	rootKey   = 2 // of the inode of /
	dKey      = 3
	fKey      = 4
	gKey      = 5
	eKey      = 6
	freeKey   = 7 // of the first free inode
	listKey   = 10
	dListKey  = 11
	fDataKey  = 12
)

func formVolume(t *testing.T) *volume {
	t.Helper()
	v := newVolume(t, shape(8, 12), mkdir("/d"), mk("/d/f"), put("/d/f", 0, strings.Repeat("x", maxData)), put("/d/f", maxData, strings.Repeat("y", 72)), mk("/g"), mkdir("/e"))
	for key, want := range map[uint32]string{rootKey: "\x02\x01\x00\x00\x00\x30\x00\x00\x00\x01", dKey: "\x02\x01\x00\x00\x00\x10\x00\x01\x00\x01", fKey: "\x01\x01\x00\x00\x00\xc8\x00\x02\x00\x04", gKey: "\x01\x00\x00\x00\x00\x00", eKey: "\x02\x00\x00\x00\x00\x00"} {
		if string(v.value(key)) != want {
			t.Fatal(key, "is", v.value(key))
		}
	}
	v.check()
	return v
}

// with returns a view of everything in which the key has another value.
func (v *volume) with(key uint32, data []byte) *plan.View {
	x := v.whole()
	x.Know(key, 5, data)
	return x
}

// noForm holds calls to ErrForm.
func (v *volume) noForm(x *plan.View, l ...api.Call) {
	v.t.Helper()
	for _, c := range l {
		if p := plan.Make(v.shape, x, c); !samePlan(p, plan.Plan{Answer: api.Answer{Code: api.ErrForm}}) {
			v.t.Error(c, "is", p, "want 4")
		}
	}
}

// asEver holds calls that don't examine what is wrong to what they answer otherwise.
func (v *volume) asEver(x *plan.View, l ...api.Call) {
	v.t.Helper()
	for _, c := range l {
		p, want := plan.Make(v.shape, x, c), plan.Make(v.shape, v.whole(), c)
		if !tree.Same(p.Answer, want.Answer) || len(p.Patches) != len(want.Patches) || p.Lacks {
			v.t.Error(c, "is", p, "want", want)
		}
	}
}

// P32.2: a value that is not a bitmap; calls that need none are answered.
func TestNoBitmap(t *testing.T) {
	v := formVolume(t)
	right := v.value(bitmapKey)
	for _, b := range [][]byte{{1}, {0, 0}, append(slices.Clone(right), 0), {255, 255, 255}, {0, 0, 0x10}, {0, 0, 0x80}} {
		x := v.with(bitmapKey, b)
		v.noForm(x, mk("/a"), mkdir("/d/a"), rm("/g"), rm("/d/f"), rmdir("/e"), put("/g", 0, "a"), put("/d/f", 200, strings.Repeat("a", 57)), cut("/d/f", 192), mv("/g", "/e/a"), mv("/d/f", "/a"))
		v.asEver(x, mk("/g"), mkdir("/d/f"), mk("/x/y"), rm("/x"), rm("/d"), rmdir("/d"), put("/d/f", 10, "a"), put("/d/f", 200, strings.Repeat("a", 56)), put("/g", 0, ""), cut("/d/f", 193), cut("/g", 0), mv("/d/f", "/d/a"), mv("/d", "/a"), mv("/g", "/d/a"), get("/d/f", 0, 9), ls("/"), ls("/d"), stat("/d/f"))
	}
}

// P32.2: values that are not inodes, and those with blocks that the volume doesn't have.
func TestNoInode(t *testing.T) {
	v := formVolume(t)
	for _, b := range []string{"\x00", "\x03\x00\x00\x00\x00\x00", "\x01\x00\x00\x00\x00\x01", "\x00\x00\x00\x00\x00\x01", "\x01\x00\x00\x00\x00\x00\x00", "\x01\x01\x00\x00\x00\x01\x00\x0c\x00\x01", "\x02\x01\x00\x00\x00\x10\x0f\xff\x00\x01", "\x02\x01\x00\x00\x00\x50\x00\x0b\x00\x02"} {
		x := v.with(rootKey, []byte(b))
		v.noForm(x, mk("/a"), mkdir("/d/a"), rm("/g"), rmdir("/e"), mv("/g", "/a"), put("/g", 0, "a"), get("/g", 0, 1), cut("/g", 0), ls("/"), stat("/"), stat("/x/y"))
		x = v.with(dKey, []byte(b))
		v.noForm(x, mk("/d/a"), mkdir("/d/a"), rm("/d/f"), rm("/d"), rmdir("/d"), mv("/d", "/a"), mv("/g", "/d/a"), mv("/d/f", "/a"), put("/d/f", 0, "a"), get("/d", 0, 1), cut("/d", 0), ls("/d"), stat("/d"), stat("/d/x"))
		v.asEver(x, mk("/a"), mk("/d"), mkdir("/e/a"), rm("/g"), rmdir("/e"), mv("/g", "/a"), put("/g", 0, "a"), ls("/"), stat("/"), stat("/g"))
		x = v.with(fKey, []byte(b))
		v.noForm(x, rm("/d/f"), rmdir("/d/f"), mv("/d/f", "/a"), put("/d/f", 0, "a"), get("/d/f", 0, 1), cut("/d/f", 0), ls("/d/f"), stat("/d/f"), stat("/d/f/x"))
		v.asEver(x, mk("/d/a"), ls("/d"), rmdir("/d"), stat("/d"), mv("/d", "/a"))
	}
}

// P32.2: inode 1 is a directory.
func TestNoRoot(t *testing.T) {
	v := formVolume(t)
	for _, b := range []string{"\x00\x00\x00\x00\x00\x00", "\x01\x00\x00\x00\x00\x00", "\x01\x01\x00\x00\x00\x30\x00\x00\x00\x01"} {
		v.noForm(v.with(rootKey, []byte(b)), mk("/a"), mkdir("/d/a"), rm("/g"), rmdir("/e"), mv("/g", "/a"), put("/g", 0, "a"), put("/", 0, "a"), get("/", 0, 1), cut("/", 0), ls("/"), stat("/"), stat("/x/y"))
	}
}

// P32.2: values that are not entries.
func TestNoEntries(t *testing.T) {
	v := formVolume(t)
	entry := func(name string, node byte) string {
		return string(byte(len(name))) + name + strings.Repeat("\x00", 14-len(name)) + string([]byte{node})
	}
	for _, b := range []string{"", "\xff", strings.Repeat("\x00", 64), entry("a", 0), entry("A", 4), entry("..", 4), "\x02a" + strings.Repeat("\x00", 13) + "\x04", "\x01f\x00\x01" + strings.Repeat("\x00", 11) + "\x04"} {
		x := v.with(dListKey, []byte(b))
		v.noForm(x, mk("/d/a"), mkdir("/d/a"), rm("/d/f"), rmdir("/d"), mv("/d/f", "/a"), mv("/g", "/d/a"), put("/d/f", 0, "a"), get("/d/f", 0, 1), cut("/d/f", 0), ls("/d"), stat("/d"), stat("/d/x"), stat("/d/f/x"))
		v.asEver(x, mk("/a"), rm("/g"), ls("/"), rm("/d"), mv("/d", "/a"), get("/d", 0, 1))
	}
	for _, b := range []string{entry("d", 2) + entry("d", 5) + entry("g", 4), entry("g", 4) + entry("e", 5) + entry("d", 2)} { // not in order
		v.noForm(v.with(listKey, []byte(b)), mk("/a"), rm("/g"), ls("/"), stat("/"), stat("/d/f"))
	}
	odd := v.with(dKey, []byte("\x02\x01\x00\x00\x00\x11\x00\x01\x00\x01")) // seventeen bytes
	v.noForm(odd, mk("/d/a"), ls("/d"), stat("/d"), rmdir("/d"), get("/d/f", 0, 1))
}

// P32.2: an entry whose inode is free, or does not exist.
func TestNoNode(t *testing.T) {
	v := formVolume(t)
	named := func(node int) []byte {
		return append([]byte("\x01f"+strings.Repeat("\x00", 12)), byte(node>>8), byte(node))
	}
	calls := []api.Call{rm("/d/f"), rmdir("/d/f"), mv("/d/f", "/a"), put("/d/f", 0, "a"), get("/d/f", 0, 1), cut("/d/f", 0), ls("/d/f"), stat("/d/f"), stat("/d/f/x"), mk("/d/f/x")}
	for _, node := range []int{9, 10, 255, 256, 65535, 1} {
		v.noForm(v.with(dListKey, named(node)), append(calls, ls("/d"), stat("/d"), mk("/d/a"))...)
	}
	for _, node := range []int{6, 7, 8} {
		x := v.with(dListKey, named(node))
		v.noForm(x, calls...)
		v.asEver(x, ls("/d"), stat("/d"), mk("/d/f"), rmdir("/d"))
	}
	for _, b := range []string{"", "\x00\x00\x00\x00\x00\x00"} {
		v.noForm(v.with(fKey, []byte(b)), calls...)
	}
}

// P32.2: a bitmap and inodes that contradict each other, where both are examined.
func TestContradictions(t *testing.T) {
	v := formVolume(t)
	bit := func(at int) []byte {
		b := slices.Clone(v.value(bitmapKey))
		b[at/8] ^= 1 << (at % 8)
		return b
	}
	v.noForm(v.with(bitmapKey, bit(12)), mk("/a"), put("/g", 0, "a"), rm("/g")) // the bit of inode 1 is used
	v.noForm(v.with(bitmapKey, bit(14)), mk("/a"), rm("/d/f"))                  // that of /d/f is free
	v.noForm(v.with(bitmapKey, bit(2)), rm("/d/f"), cut("/d/f", 0), put("/d/f", 200, strings.Repeat("a", 57)))
	v.noForm(v.with(freeKey, []byte("\x01\x00\x00\x00\x00\x00")), mk("/a"), mkdir("/e/a"))
	v.noForm(v.with(freeKey, []byte("\xff")), mk("/a"), mkdir("/e/a"))
}

// P32.2: the data of blocks are any bytes: those that lack are zero.
func TestShortBlocks(t *testing.T) {
	v := formVolume(t)
	for _, c := range []struct{ data, want string }{{"", "\x00\x00\x00\x00\x00"}, {"abc", "abc\x00\x00"}, {strings.Repeat("abcde", 400), "abcde"}} {
		if p := plan.Make(v.shape, v.with(fDataKey, []byte(c.data)), get("/d/f", 0, 5)); string(p.Answer.Data) != c.want {
			t.Error(p, "want", []byte(c.want))
		}
		p := plan.Make(v.shape, v.with(fDataKey, []byte(c.data)), put("/d/f", 1, "!"))
		if len(p.Patches) != 1 || len(p.Patches[0].Data) != 64 || string(p.Patches[0].Data[:5]) != c.want[:1]+"!"+c.want[2:] {
			t.Error(p)
		}
	}
}

// P1, P32.2: with any values, each plan is made, within the limits.
func TestAnyValues(t *testing.T) {
	r := rand.New(rand.NewSource(326))
	forms := 0
	for range 300 {
		v := newVolume(t, shape(2+r.Intn(10), 2+r.Intn(20)))
		for range 30 {
			v.do(v.random(r, 6, 0))
		}
		for range 60 {
			x := v.whole()
			for range 1 + r.Intn(4) {
				v.spoil(r, x)
			}
			c := v.random(r, 4, 0)
			p := plan.Make(v.shape, x, c)
			if p.Answer.Code == api.ErrForm {
				forms++
			}
			if p.Lacks || p.Answer.Code != api.OK && (len(p.Patches) > 0 || !tree.Same(p.Answer, api.Answer{Code: p.Answer.Code})) {
				t.Fatal(c, "is", p)
			}
			v.mustFit(c, p, x)
		}
	}
	if forms == 0 {
		t.Error("nothing was wrong")
	}
}

// spoil changes a value: by a byte, to that of another key, or to any bytes.
func (v *volume) spoil(r *rand.Rand, x *plan.View) {
	key := 1 + uint32(r.Intn(int(v.last())))
	if r.Intn(2) == 0 {
		key = 1 + uint32(r.Intn(v.shape.Inodes))
	}
	_, b, _ := x.Knows(key)
	switch r.Intn(4) {
	case 0:
		b = make([]byte, r.Intn(70))
		r.Read(b)
	case 1:
		kind, _ := vol.What(v.shape, key)
		other := 1 + uint32(r.Intn(int(v.last())))
		if got, _ := vol.What(v.shape, other); got == kind {
			_, b, _ = x.Knows(other)
		}
	default:
		if len(b) > 0 {
			b[r.Intn(len(b))] = byte(r.Intn(20))
		}
	}
	x.Know(key, uint64(r.Intn(5)), b)
}

// P32.2: the answers of calls on values that were spoiled never need more blocks than the volume has, when they are asked for one by one.
func TestAnyLacks(t *testing.T) {
	r := rand.New(rand.NewSource(327))
	for range 200 {
		v := newVolume(t, shape(2+r.Intn(10), 2+r.Intn(20)))
		for range 30 {
			v.do(v.random(r, 6, 0))
		}
		for range 5 {
			v.spoil(r, v.view)
		}
		for range 30 {
			c := v.random(r, 4, 0)
			p, _ := v.plan(c)
			if all := plan.Make(v.shape, v.whole(), c); !samePlan(p, all) {
				t.Fatal(c, "is", p, "with everything known", all)
			}
		}
	}
}
