package plan

import (
	"bytes"
	"maps"
	"slices"

	"catenary/vol"
)

// value is what a block has, and the version of that.
type value struct {
	ver  uint64
	data []byte
}

// View is blocks' values that are known.
type View struct {
	values map[uint32]value // by keys
}

// New returns an empty view.
func New() *View {
	return &View{values: map[uint32]value{}}
}

// Know stores the value of the key, with that version.
func (v *View) Know(key uint32, ver uint64, data []byte) {
	if v == nil {
		return
	}
	v.values[key] = value{ver: ver, data: bytes.Clone(data)}
}

// Knows returns the version and the value of the key, and whether the view has one.
func (v *View) Knows(key uint32) (uint64, []byte, bool) {
	if v == nil {
		return 0, nil, false
	}
	x, ok := v.values[key]
	return x.ver, bytes.Clone(x.data), ok
}

// Keys returns the keys of the values that the view has, in increasing order.
func (v *View) Keys() []uint32 {
	if v == nil {
		return nil
	}
	return slices.Sorted(maps.Keys(v.values))
}

// Do stores the Data of each patch whose Ver is the version that the view has.
func (v *View) Do(l []vol.Patch) {
	for _, p := range l {
		if ver, _, _ := v.Knows(p.Key); ver == p.Ver {
			v.Know(p.Key, ver+1, p.Data)
		}
	}
}
