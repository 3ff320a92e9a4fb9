// Package fix is layer 1: numbers of a fixed width as bytes. See shared/doc/01-fix.md.
package fix

import (
	"bytes"

	"catenary/api"
)

const (
	widest   = 8         // bytes of the widest number
	lenWidth = 2         // bytes of a string's length
	longest  = 1<<16 - 1 // the greatest length of that width
)

// Out is bytes that are put.
type Out struct {
	bytes []byte
	most  int
	err   api.Errno
}

// New returns an empty Out for at most most bytes.
func New(most int) *Out {
	return &Out{most: max(most, 0)}
}

// Put appends the number n.
func (o *Out) Put(n uint64, width int) {
	switch {
	case o == nil:
	case width < 1 || width > widest:
		o.fail(api.ErrArg)
	case n>>(8*width) != 0:
		o.fail(api.ErrForm)
	case o.fits(width):
		o.number(n, width)
	}
}

// Raw appends the bytes of b.
func (o *Out) Raw(b []byte) {
	if o != nil && o.fits(len(b)) {
		o.bytes = append(o.bytes, b...)
	}
}

// Text appends the string b.
func (o *Out) Text(b []byte) {
	switch {
	case o == nil:
	case len(b) > longest:
		o.fail(api.ErrForm)
	case o.fits(lenWidth + len(b)):
		o.number(uint64(len(b)), lenWidth)
		o.bytes = append(o.bytes, b...)
	}
}

// Bool appends the bool x.
func (o *Out) Bool(x bool) {
	if x {
		o.Put(1, 1)
	} else {
		o.Put(0, 1)
	}
}

// Done returns all bytes, or the first error.
func (o *Out) Done() ([]byte, api.Errno) {
	if o == nil {
		return nil, api.ErrNil
	}
	return bytes.Clone(o.bytes), o.err
}

// fits reports whether n more bytes may follow, and fails if they are too many.
func (o *Out) fits(n int) bool {
	if n > o.most-len(o.bytes) {
		o.fail(api.ErrLong)
	}
	return o.err == api.OK
}

// number appends n, which has been found to fit.
func (o *Out) number(n uint64, width int) {
	for at := width - 1; at >= 0; at-- {
		o.bytes = append(o.bytes, byte(n>>(8*at)))
	}
}

// fail keeps the first error alone, and drops the bytes, which nobody can get any more.
func (o *Out) fail(e api.Errno) {
	if o.err == api.OK {
		o.err = e
		o.bytes = nil
	}
}

// In is bytes that are read.
type In struct {
	rest []byte
	err  api.Errno
}

// Of returns an In at the beginning of b; it reads a copy, so that b may change meanwhile.
func Of(b []byte) *In {
	return &In{rest: bytes.Clone(b)}
}

// Get returns the next number of that width.
func (i *In) Get(width int) uint64 {
	if i == nil {
		return 0
	}
	if width < 1 || width > widest {
		i.fail(api.ErrArg)
		return 0
	}
	var n uint64
	for _, b := range i.next(width) {
		n = n<<8 | uint64(b)
	}
	return n
}

// Upto returns the next number of that width, which is at most most.
func (i *In) Upto(width int, most uint64) uint64 {
	n := i.Get(width)
	if n > most {
		i.fail(api.ErrForm)
		return 0
	}
	return n
}

// Raw returns the next n bytes.
func (i *In) Raw(n int) []byte {
	if i == nil {
		return nil
	}
	if n < 0 {
		i.fail(api.ErrArg)
		return nil
	}
	return i.next(n)
}

// Text returns the next string, of at most most bytes.
func (i *In) Text(most int) []byte {
	n := int(i.Get(lenWidth))
	if i.Err() != api.OK {
		return nil
	}
	if n > most {
		i.fail(api.ErrLong)
		return nil
	}
	return i.Raw(n)
}

// Bool returns the next bool.
func (i *In) Bool() bool {
	return i.Upto(1, 1) == 1
}

// Left returns the number of remaining bytes.
func (i *In) Left() int {
	if i == nil {
		return 0
	}
	return len(i.rest)
}

// Err returns the first error.
func (i *In) Err() api.Errno {
	if i == nil {
		return api.ErrNil
	}
	return i.err
}

// Done returns the first error, or that bytes remain; asking leaves the In as it is.
func (i *In) Done() api.Errno {
	if e := i.Err(); e != api.OK {
		return e
	}
	if i.Left() > 0 {
		return api.ErrForm
	}
	return api.OK
}

// next cuts n bytes off the rest, which is the In's own copy; their capacity ends with them, so that who gets them can't grow them over what follows.
func (i *In) next(n int) []byte {
	if n > len(i.rest) {
		i.fail(api.ErrShort)
		return nil
	}
	b := i.rest[:n:n]
	i.rest = i.rest[n:]
	return b
}

// fail keeps the first error alone, and drops the rest, so that nothing is read after it.
func (i *In) fail(e api.Errno) {
	if i.err == api.OK {
		i.err = e
		i.rest = nil
	}
}
