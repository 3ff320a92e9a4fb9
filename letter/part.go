package letter

import (
	"catenary/api"
	"catenary/ballot"
	"catenary/cmds"
	"catenary/conf"
	"catenary/fix"
)

// The parts, each a bit of a set, numbered as they follow each other in a body. A field of a letter for which kinds have different limits is several parts.
const (
	ballotPart = 1 << iota
	chainPart
	epochPart
	seqPart
	donePart
	slotPart
	numPart
	lateSlotPart // a Slot that follows a Num
	keyPart
	codePart
	verPart
	cmdPart
	confPart
	votesPart
	updatesPart // of a chain
	requestPart // the one of a client
	piecePart   // the Data of an LPart
	valuePart   // the Data of an LGot
	endOfParts
)

// kindParts are the parts of each kind.
var kindParts = [api.Letters + 1]uint32{
	api.LPrepare:  ballotPart | slotPart,
	api.LPromise:  ballotPart | slotPart | votesPart,
	api.LAccept:   ballotPart | slotPart | cmdPart,
	api.LAccepted: ballotPart | slotPart,
	api.LChosen:   slotPart | cmdPart,
	api.LBeat:     ballotPart | slotPart,
	api.LWant:     slotPart,
	api.LRefuse:   ballotPart,
	api.LReport:   cmdPart,
	api.LLocate:   chainPart,
	api.LConfig:   confPart,
	api.LPush:     chainPart | epochPart | seqPart | donePart | updatesPart,
	api.LAck:      chainPart | epochPart | seqPart | donePart | numPart | lateSlotPart,
	api.LPart:     chainPart | epochPart | seqPart | slotPart | numPart | piecePart,
	api.LQuery:    chainPart | epochPart | numPart | keyPart,
	api.LTold:     chainPart | epochPart | numPart | keyPart | verPart,
	api.LWrite:    chainPart | epochPart | requestPart,
	api.LWrote:    numPart | codePart | verPart,
	api.LRead:     chainPart | epochPart | numPart | keyPart,
	api.LGot:      numPart | keyPart | verPart | valuePart,
}

// part is what is done with one part of a letter: whether it is valid, how it is put and read, and how it is made zero.
type part struct {
	right func(l *api.Letter) bool
	put   func(o *fix.Out, l *api.Letter)
	get   func(i *fix.In, l *api.Letter) api.Errno
	drop  func(l *api.Letter)
}

// The widths of numbers, of parts as of what is in them.
const (
	addressWidth = 2
	chainWidth   = 1
	codeWidth    = 1
	slotWidth    = 2
	keyWidth     = 4
	ballotWidth  = 8
	countWidth   = 8 // of an Epoch, a Seq, a Done, a Num and a Ver
)

const mostCode = 255

// partsOf returns the parts of a kind, in their order.
func partsOf(kind int) []part {
	var l []part
	for bit := uint32(1); bit < endOfParts; bit <<= 1 {
		if kindParts[kind]&bit != 0 {
			l = append(l, partAt(bit))
		}
	}
	return l
}

// partAt makes the part of a bit, and no other one: a letter has few.
func partAt(bit uint32) part {
	switch bit {
	case ballotPart:
		return number(ballotWidth, ballot.Is, func(l *api.Letter) *uint64 { return &l.Ballot })
	case chainPart:
		return number(chainWidth, upTo(api.MaxChains-1), func(l *api.Letter) *int { return &l.Chain })
	case epochPart:
		return number(countWidth, isPositive, func(l *api.Letter) *uint64 { return &l.Epoch })
	case seqPart:
		return number(countWidth, anyValue, func(l *api.Letter) *uint64 { return &l.Seq })
	case donePart:
		return number(countWidth, anyValue, func(l *api.Letter) *uint64 { return &l.Done })
	case slotPart, lateSlotPart:
		return number(slotWidth, upTo(api.MaxSlots), func(l *api.Letter) *int { return &l.Slot })
	case numPart:
		return number(countWidth, anyValue, func(l *api.Letter) *uint64 { return &l.Num })
	case keyPart:
		return number(keyWidth, anyValue, func(l *api.Letter) *uint32 { return &l.Key })
	case codePart:
		return number(codeWidth, upTo[api.Errno](mostCode), func(l *api.Letter) *api.Errno { return &l.Code })
	case verPart:
		return number(countWidth, anyValue, func(l *api.Letter) *uint64 { return &l.Ver })
	case cmdPart:
		return field(isCommand, putCommand, cmds.Get, func(l *api.Letter) *api.Cmd { return &l.Cmd })
	case confPart:
		return field(conf.Right, putConf, conf.Get, func(l *api.Letter) *api.Conf { return &l.Conf })
	case votesPart:
		return field(areVotes, putVotes, getVotes, func(l *api.Letter) *[]api.Vote { return &l.Votes })
	case updatesPart:
		return field(areUpdates, putUpdates, getUpdates, func(l *api.Letter) *[]api.Update { return &l.Updates })
	case requestPart:
		return field(areRequest, putUpdates, getUpdates, func(l *api.Letter) *[]api.Update { return &l.Updates })
	case piecePart:
		return data(api.MaxPart)
	default:
		return data(api.MaxValue)
	}
}

// field makes the part that is the field at some place of a letter.
func field[T any](right func(T) bool, put func(*fix.Out, T), get func(*fix.In) (T, api.Errno), at func(*api.Letter) *T) part {
	return part{
		right: func(l *api.Letter) bool { return right(*at(l)) },
		put:   func(o *fix.Out, l *api.Letter) { put(o, *at(l)) },
		get: func(i *fix.In, l *api.Letter) api.Errno {
			x, e := get(i)
			*at(l) = x
			return e
		},
		drop: func(l *api.Letter) {
			var zero T
			*at(l) = zero
		},
	}
}

// number makes the part that is a number of a width.
func number[N int | uint32 | uint64 | api.Errno](width int, right func(N) bool, at func(*api.Letter) *N) part {
	put := func(o *fix.Out, n N) { o.Put(uint64(n), width) }
	get := func(i *fix.In) (N, api.Errno) { return N(i.Get(width)), i.Err() }
	return field(right, put, get, at)
}

// data makes the part that is Data of at most most bytes.
func data(most int) part {
	right := func(b []byte) bool { return len(b) <= most }
	get := func(i *fix.In) ([]byte, api.Errno) { return i.Text(most), i.Err() }
	return field(right, (*fix.Out).Text, get, func(l *api.Letter) *[]byte { return &l.Data })
}

func anyValue[N uint32 | uint64](N) bool {
	return true
}

func isPositive(n uint64) bool {
	return n >= 1
}

func upTo[N int | api.Errno](most N) func(N) bool {
	return func(n N) bool { return n >= 0 && n <= most }
}

func isCommand(c api.Cmd) bool {
	return cmds.Check(c) == api.OK
}

// putCommand leaves it to o to report errors: the command is known to be valid.
func putCommand(o *fix.Out, c api.Cmd) {
	cmds.Put(o, c)
}

// putConf leaves it to o to report errors: the configuration is known to be valid.
func putConf(o *fix.Out, c api.Conf) {
	conf.Put(o, c)
}
