package letter

import (
	"slices"

	"catenary/api"
	"catenary/ballot"
	"catenary/cmds"
	"catenary/fix"
)

const (
	votesWidth   = 2 // of the number of votes
	updatesWidth = 1 // of the number of updates
	clientWidth  = 1
	kindWidth    = 1
)

// PutUpdate appends the bytes of an update to o, which reports errors.
func PutUpdate(o *fix.Out, u api.Update) {
	o.Put(u.Seq, countWidth)
	o.Put(uint64(u.Client), clientWidth)
	o.Put(u.Num, countWidth)
	o.Put(uint64(u.Kind), kindWidth)
	o.Put(uint64(u.Key), keyWidth)
	o.Put(u.Ver, countWidth)
	o.Text(u.Data)
}

// GetUpdate returns the update that is encoded next; i reports errors.
func GetUpdate(i *fix.In) api.Update {
	u := api.Update{Seq: i.Get(countWidth), Client: int(i.Get(clientWidth)), Num: i.Get(countWidth), Kind: int(i.Get(kindWidth))}
	u.Key = uint32(i.Get(keyWidth))
	u.Ver = i.Get(countWidth)
	u.Data = i.Text(api.MaxValue)
	if i.Err() != api.OK {
		return api.Update{}
	}
	return u
}

func putUpdates(o *fix.Out, l []api.Update) {
	o.Put(uint64(len(l)), updatesWidth)
	for _, u := range l {
		PutUpdate(o, u)
	}
}

func getUpdates(i *fix.In) ([]api.Update, api.Errno) {
	var l []api.Update
	for range i.Upto(updatesWidth, api.MaxBatch) {
		l = append(l, GetUpdate(i))
	}
	return l, i.Err()
}

// areUpdates reports whether these are updates of a chain.
func areUpdates(l []api.Update) bool {
	wrong := func(u api.Update) bool { return u.Seq < 1 || !isUpdate(u) }
	return len(l) <= api.MaxBatch && !slices.ContainsFunc(l, wrong)
}

// areRequest reports whether these are what a client asks for: one update, which no chain has numbered yet.
func areRequest(l []api.Update) bool {
	return len(l) == 1 && l[0].Seq == 0 && isUpdate(l[0])
}

// isUpdate reports whether u is valid, whatever its Seq is.
func isUpdate(u api.Update) bool {
	client := u.Client >= 1 && u.Client <= api.MaxClients
	kind := u.Kind == api.Compare || u.Kind == api.Write && u.Ver == 0
	return client && kind && u.Num >= 1 && len(u.Data) <= api.MaxValue
}

func putVotes(o *fix.Out, l []api.Vote) {
	o.Put(uint64(len(l)), votesWidth)
	for _, v := range l {
		o.Put(uint64(v.Slot), slotWidth)
		o.Put(v.Ballot, ballotWidth)
		putCommand(o, v.Cmd)
	}
}

func getVotes(i *fix.In) ([]api.Vote, api.Errno) {
	var l []api.Vote
	for range i.Upto(votesWidth, api.MaxSlots) {
		v := api.Vote{Slot: int(i.Get(slotWidth)), Ballot: i.Get(ballotWidth)}
		c, e := cmds.Get(i)
		if e != api.OK {
			return nil, e
		}
		v.Cmd = c
		l = append(l, v)
	}
	return l, i.Err()
}

// areVotes reports whether these are votes of a master; as their slots increase, there are at most MaxSlots of them.
func areVotes(l []api.Vote) bool {
	ahead := -1
	for _, v := range l {
		if v.Slot <= ahead || v.Slot >= api.MaxSlots || !ballot.Is(v.Ballot) || !isCommand(v.Cmd) {
			return false
		}
		ahead = v.Slot
	}
	return true
}
