package plan_test

import (
	"bytes"
	"math"
	"math/rand"
	"slices"
	"testing"

	"catenary/plan"
	"catenary/vol"
)

// knows holds what a view has of a key.
func knows(t *testing.T, v *plan.View, key uint32, ver uint64, data string, there bool) {
	t.Helper()
	if gotVer, got, ok := v.Knows(key); gotVer != ver || string(got) != data || ok != there {
		t.Error(key, "is", gotVer, got, ok, "want", ver, []byte(data), there)
	}
}

// P32.1: a new view is empty.
func TestNew(t *testing.T) {
	v := plan.New()
	for _, key := range []uint32{0, 1, 2, 100, math.MaxUint32} {
		knows(t, v, key, 0, "", false)
	}
	if len(v.Keys()) != 0 {
		t.Error(v.Keys())
	}
	v.Know(1, 2, nil)
	if len(plan.New().Keys()) != 0 {
		t.Error("views share what they have")
	}
}

// P32.1: Know replaces, Knows tells, Keys are in order.
func TestKnow(t *testing.T) {
	v := plan.New()
	v.Know(7, 3, []byte("abc"))
	v.Know(math.MaxUint32, math.MaxUint64, bytes.Repeat([]byte("x"), 5000))
	v.Know(0, 0, nil)
	v.Know(256, 1, []byte{})
	v.Know(9, 1, []byte("z"))
	knows(t, v, 7, 3, "abc", true)
	knows(t, v, 0, 0, "", true)
	knows(t, v, 256, 1, "", true)
	knows(t, v, math.MaxUint32, math.MaxUint64, string(bytes.Repeat([]byte("x"), 5000)), true)
	knows(t, v, 8, 0, "", false)
	v.Know(7, 2, []byte("de"))
	knows(t, v, 7, 2, "de", true)
	v.Know(7, 0, nil)
	knows(t, v, 7, 0, "", true)
	if got := v.Keys(); !slices.Equal(got, []uint32{0, 7, 9, 256, math.MaxUint32}) {
		t.Error(got)
	}
	r := rand.New(rand.NewSource(321))
	all := r.Perm(300)
	x := plan.New()
	for at, key := range all {
		x.Know(uint32(key), 1, nil)
		want := make([]uint32, 0, at)
		for _, k := range all[:at+1] {
			want = append(want, uint32(k))
		}
		slices.Sort(want)
		if !slices.Equal(x.Keys(), want) {
			t.Fatal(x.Keys(), "want", want)
		}
	}
}

// P32.1: a patch is stored if its Ver is the one that the view has; then the version is one greater.
func TestDo(t *testing.T) {
	v := plan.New()
	v.Know(3, 5, []byte("old"))
	v.Know(4, 5, []byte("old"))
	v.Know(5, 0, []byte("old"))
	v.Know(6, 1, []byte("old"))
	v.Do([]vol.Patch{
		{Key: 3, Ver: 5, Data: []byte("new")}, {Key: 4, Ver: 4, Data: []byte("new")}, {Key: 4, Ver: 6, Data: []byte("new")}, {Key: 4, Ver: 0, Data: []byte("new")},
		{Key: 5, Ver: 0, Data: []byte("new")}, {Key: 6, Ver: 0, Data: []byte("new")}, {Key: 7, Ver: 0, Data: []byte("new")}, {Key: 8, Ver: 1, Data: []byte("new")}, {Key: 0, Ver: 0, Data: nil},
	})
	knows(t, v, 3, 6, "new", true)
	knows(t, v, 4, 5, "old", true)
	knows(t, v, 5, 1, "new", true)
	knows(t, v, 6, 1, "old", true)
	knows(t, v, 7, 1, "new", true)
	knows(t, v, 8, 0, "", false)
	knows(t, v, 0, 1, "", true)
	v.Do([]vol.Patch{{Key: 3, Ver: 6, Data: []byte("a")}, {Key: 3, Ver: 6, Data: []byte("b")}, {Key: 3, Ver: 7, Data: []byte("c")}, {Key: 2, Ver: 0}, {Key: 2, Ver: 1, Data: []byte("d")}})
	knows(t, v, 3, 8, "c", true)
	knows(t, v, 2, 2, "d", true)
	v.Do(nil)
	v.Do([]vol.Patch{})
	if got := v.Keys(); !slices.Equal(got, []uint32{0, 2, 3, 4, 5, 6, 7}) {
		t.Error(got)
	}
}

// P32.1: what the functions return on a nil view.
func TestNilView(t *testing.T) {
	var v *plan.View
	v.Know(1, 2, []byte("a"))
	v.Do([]vol.Patch{{Key: 1}, {Key: 2, Data: []byte("a")}})
	knows(t, v, 1, 0, "", false)
	if len(v.Keys()) != 0 {
		t.Error(v.Keys())
	}
}

// Rule 5: what is passed is neither changed nor kept, and results are new memory.
func TestViewMemory(t *testing.T) {
	v := plan.New()
	data := make([]byte, 3, 10)
	copy(data, "abc")
	v.Know(1, 1, data)
	clear(data)
	l := []vol.Patch{{Key: 2, Data: []byte("def")}}
	v.Do(l)
	if l[0].Key != 2 || l[0].Ver != 0 || string(l[0].Data) != "def" {
		t.Error("the patches were changed", l)
	}
	clear(l[0].Data)
	for key := range uint32(3) {
		_, b, _ := v.Knows(key)
		clear(b)
		_ = append(b, "xyz"...)
	}
	clear(v.Keys())
	knows(t, v, 1, 1, "abc", true)
	knows(t, v, 2, 1, "def", true)
	if !slices.Equal(v.Keys(), []uint32{1, 2}) {
		t.Error(v.Keys())
	}
}
