package store

import (
	"math"

	"catenary/api"
	"catenary/fix"
	"catenary/sess"
	"catenary/vers"
)

const (
	seqWidth    = 8 // of the end, too
	blocksWidth = 2 // of the number of blocks
	keyWidth    = 4
	verWidth    = 8
)

// value is a block as a picture shows it: by its last version alone.
type value struct {
	key  uint32
	last vers.Version
}

// Picture returns the picture of the store.
func (s *Store) Picture() []byte {
	if s == nil {
		return nil
	}
	o := fix.New(math.MaxInt) // the numbers of clients and of blocks are limit enough
	o.Put(s.end, seqWidth)
	s.sessions.Put(o)
	keys := s.Keys()
	o.Put(uint64(len(keys)), blocksWidth)
	for _, key := range keys {
		putValue(o, value{key, s.Last(key)})
	}
	b, _ := o.Done() // there is no error: all numbers fit their widths, and all Data a string
	return b
}

// Load returns the store of which b is the picture.
func Load(b []byte) (*Store, api.Errno) {
	i := fix.Of(b)
	s := New()
	s.end = i.Get(seqWidth)
	sessions, e := sess.Read(i)
	if e != api.OK {
		return nil, e
	}
	values := getValues(i)
	if e := i.Done(); e != api.OK {
		return nil, e
	}
	if !s.reaches(sessions) || !s.fill(values) {
		return nil, api.ErrForm
	}
	s.sessions = sessions
	return s, api.OK
}

func putValue(o *fix.Out, v value) {
	o.Put(uint64(v.key), keyWidth)
	o.Put(v.last.Ver, verWidth)
	o.Put(v.last.Seq, seqWidth)
	o.Text(v.last.Data)
}

// getValues returns the blocks that are told next, whatever they are; i keeps the errors.
func getValues(i *fix.In) []value {
	l := make([]value, i.Upto(blocksWidth, api.MaxKeys))
	for at := range l {
		key := uint32(i.Get(keyWidth))
		l[at] = value{key, vers.Version{Ver: i.Get(verWidth), Seq: i.Get(seqWidth), Data: i.Text(api.MaxValue)}}
	}
	return l
}

// reaches reports whether no row is that of an update behind the end.
func (s *Store) reaches(t *sess.Table) bool {
	for _, r := range t.All() {
		if r.Seq > s.end {
			return false
		}
	}
	return true
}

// fill puts the blocks into the store, and reports whether a store may have them.
func (s *Store) fill(l []value) bool {
	for at, v := range l {
		if at > 0 && v.key <= l[at-1].key || v.last.Seq > s.end || s.put(v.key, v.last) != api.OK {
			return false
		}
	}
	return true
}
