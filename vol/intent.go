package vol

import (
	"bytes"
	"cmp"
	"slices"

	"catenary/api"
	"catenary/fix"
)

const (
	countWidth = 1 // of the number of patches
	keyWidth   = 4
	verWidth   = 8
	lenWidth   = 2 // of a string's length
	maxBytes   = countWidth + MaxPatch*(keyWidth+verWidth+lenWidth+api.Block)
)

// Patch is a block's new value.
type Patch struct {
	Key  uint32
	Ver  uint64
	Data []byte
}

// Check returns what is wrong with the patches of an intent.
func Check(s Shape, l []Patch) api.Errno {
	if !Right(s) {
		return api.ErrArg
	}
	if len(l) > MaxPatch {
		return api.ErrFull
	}
	previous := uint32(rootKey) // no patch may have it, so all others are above it
	for _, p := range l {
		kind, _ := What(s, p.Key)
		switch {
		case kind == 0 || p.Key == rootKey:
			return api.ErrRange
		case p.Key <= previous:
			return api.ErrForm
		case len(p.Data) > api.Block:
			return api.ErrLong
		}
		previous = p.Key
	}
	return api.OK
}

// Put returns the bytes of the root block with these patches.
func Put(s Shape, l []Patch) ([]byte, api.Errno) {
	if e := Check(s, l); e != api.OK || len(l) == 0 {
		return nil, e
	}
	o := fix.New(maxBytes)
	o.Put(uint64(len(l)), countWidth)
	for _, p := range l {
		o.Put(uint64(p.Key), keyWidth)
		o.Put(p.Ver, verWidth)
		o.Text(p.Data)
	}
	return o.Done()
}

// Get returns the patches of the root block with these bytes.
func Get(s Shape, b []byte) ([]Patch, api.Errno) {
	if len(b) == 0 {
		return nil, api.OK
	}
	if !Right(s) {
		return nil, api.ErrArg
	}
	i := fix.Of(b)
	l := make([]Patch, i.Upto(countWidth, MaxPatch))
	for at := range l {
		l[at] = Patch{Key: uint32(i.Get(keyWidth)), Ver: i.Get(verWidth), Data: i.Text(api.Block)}
	}
	if e := i.Done(); e != api.OK {
		return nil, e
	}
	if len(l) == 0 || Check(s, l) != api.OK {
		return nil, api.ErrForm
	}
	return l, api.OK
}

// Sort returns the patches by increasing keys, those with the same key in their order.
func Sort(l []Patch) []Patch {
	sorted := slices.Clone(l)
	for at, p := range l {
		sorted[at].Data = bytes.Clone(p.Data)
	}
	slices.SortStableFunc(sorted, func(p, q Patch) int { return cmp.Compare(p.Key, q.Key) })
	return sorted
}
