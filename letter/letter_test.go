package letter_test

import (
	"bytes"
	"math"
	"math/rand"
	"slices"
	"strconv"
	"testing"

	"catenary/api"
	"catenary/crc"
	"catenary/fix"
	"catenary/frame"
	"catenary/letter"
)

// sample is a valid letter, and its body.
type sample struct {
	l    api.Letter
	body []byte
}

// bodyOf joins numbers of widths, each a pair of both, and bytes.
func bodyOf(parts ...any) []byte {
	var b []byte
	for _, p := range parts {
		switch x := p.(type) {
		case [2]uint64:
			for at := int(x[1]) - 1; at >= 0; at-- {
				b = append(b, byte(x[0]>>(8*at)))
			}
		case []byte:
			b = append(b, x...)
		case string:
			b = append(b, x...)
		}
	}
	return b
}

func n1(n uint64) [2]uint64 { return [2]uint64{n, 1} }
func n2(n uint64) [2]uint64 { return [2]uint64{n, 2} }
func n4(n uint64) [2]uint64 { return [2]uint64{n, 4} }
func n8(n uint64) [2]uint64 { return [2]uint64{n, 8} }

const (
	most       = math.MaxUint64
	lastBallot = 8*(1<<60-1) + 5
)

func wide(n int) []byte {
	b := make([]byte, n)
	for at := range b {
		b[at] = byte(at * 7)
	}
	return b
}

// samples are letters of all kinds, those at the edges of what is permitted among them; their bodies are written out part by part, in the order of the document's table.
func samples() []sample {
	return append(masterSamples(), nodeSamples()...)
}

func masterSamples() []sample {
	remove := api.Cmd{Kind: api.Remove, Chain: 1, Epoch: 20, Node: 3}
	removed := bodyOf(n1(1), n1(1), n8(20), n1(3))
	noop := make([]byte, 11)
	return []sample{
		{api.Letter{Kind: api.LPrepare, From: 101, To: 105, Ballot: 11, Slot: 258}, bodyOf(n2(101), n2(105), n8(11), n2(258))},
		{api.Letter{Kind: api.LPromise, From: 102, To: 102, Ballot: 18, Slot: 0}, bodyOf(n2(102), n2(102), n8(18), n2(0), n2(0))},
		{api.Letter{Kind: api.LPromise, From: 102, To: 101, Ballot: 1<<62 + 9, Slot: 512, Votes: []api.Vote{{Slot: 0, Ballot: 11}, {Slot: 7, Ballot: 18, Cmd: remove}, {Slot: 511, Ballot: 9}}},
			bodyOf(n2(102), n2(101), n8(1<<62+9), n2(512), n2(3), n2(0), n8(11), noop, n2(7), n8(18), removed, n2(511), n8(9), noop)},
		{api.Letter{Kind: api.LAccept, From: 103, To: 104, Ballot: 12, Slot: 5, Cmd: remove}, bodyOf(n2(103), n2(104), n8(12), n2(5), removed)},
		{api.Letter{Kind: api.LAccept, From: 103, To: 104, Ballot: 12, Slot: 5}, bodyOf(n2(103), n2(104), n8(12), n2(5), noop)},
		{api.Letter{Kind: api.LAccepted, From: 1, To: 201, Ballot: 13, Slot: 511}, bodyOf(n2(1), n2(201), n8(13), n2(511))},
		{api.Letter{Kind: api.LChosen, From: 101, To: 102, Slot: 300, Cmd: remove}, bodyOf(n2(101), n2(102), n2(300), removed)},
		{api.Letter{Kind: api.LBeat, From: 101, To: 102, Ballot: 9, Slot: 1}, bodyOf(n2(101), n2(102), n8(9), n2(1))},
		{api.Letter{Kind: api.LWant, From: 101, To: 102, Slot: 512}, bodyOf(n2(101), n2(102), n2(512))},
		{api.Letter{Kind: api.LRefuse, From: 101, To: 102, Ballot: lastBallot}, bodyOf(n2(101), n2(102), n8(lastBallot))},
		{api.Letter{Kind: api.LReport, From: 24, To: 105, Cmd: remove}, bodyOf(n2(24), n2(105), removed)},
		{api.Letter{Kind: api.LReport, From: 24, To: 105}, bodyOf(n2(24), n2(105), noop)},
		{api.Letter{Kind: api.LLocate, From: 3, To: 101, Chain: 2}, bodyOf(n2(3), n2(101), n1(2))},
		{api.Letter{Kind: api.LConfig, From: 101, To: 206, Conf: api.Conf{Chain: 3, Epoch: 7, Nodes: []int{4, 24}, Fresh: true}}, bodyOf(n2(101), n2(206), n1(3), n8(7), n1(1), n1(0), n1(2), n1(4), n1(24))},
		{api.Letter{Kind: api.LConfig, From: 101, To: 5, Conf: api.Conf{Epoch: 3, Nodes: []int{2}, Join: 5}}, bodyOf(n2(101), n2(5), n1(0), n8(3), n1(0), n1(5), n1(1), n1(2))},
	}
}

func nodeSamples() []sample {
	value, piece := wide(2048), wide(1024)
	first := api.Update{Seq: 1, Client: 1, Num: 1, Kind: api.Write}
	second := api.Update{Seq: most, Client: 6, Num: 300, Kind: api.Compare, Key: 1<<32 - 1, Ver: most, Data: []byte("ab")}
	long := api.Update{Seq: 2, Client: 3, Num: most, Kind: api.Write, Key: 5, Data: value}
	asked := api.Update{Client: 2, Num: 77, Kind: api.Compare, Key: 258, Ver: 3, Data: []byte("xyz")}
	firstBytes := bodyOf(n8(1), n1(1), n8(1), n1(2), n4(0), n8(0), n2(0))
	secondBytes := bodyOf(n8(most), n1(6), n8(300), n1(3), n4(1<<32-1), n8(most), n2(2), "ab")
	longBytes := bodyOf(n8(2), n1(3), n8(most), n1(2), n4(5), n8(0), n2(2048), value)
	return []sample{
		{api.Letter{Kind: api.LPush, From: 1, To: 2, Chain: 3, Epoch: 258, Seq: 259, Done: 260}, bodyOf(n2(1), n2(2), n1(3), n8(258), n8(259), n8(260), n1(0))},
		{api.Letter{Kind: api.LPush, From: 1, To: 24, Epoch: 1, Updates: []api.Update{first, second}}, bodyOf(n2(1), n2(24), n1(0), n8(1), n8(0), n8(0), n1(2), firstBytes, secondBytes)},
		{api.Letter{Kind: api.LPush, From: 1, To: 2, Chain: 1, Epoch: most, Seq: most, Done: most, Updates: []api.Update{long, long, second, long}},
			bodyOf(n2(1), n2(2), n1(1), n8(most), n8(most), n8(most), n1(4), longBytes, longBytes, secondBytes, longBytes)},
		{api.Letter{Kind: api.LAck, From: 2, To: 1, Chain: 2, Epoch: 3, Seq: 4, Done: 5, Num: 6, Slot: 7}, bodyOf(n2(2), n2(1), n1(2), n8(3), n8(4), n8(5), n8(6), n2(7))},
		{api.Letter{Kind: api.LPart, From: 2, To: 1, Chain: 2, Epoch: 3, Seq: 4, Slot: 7, Num: 6, Data: []byte("bytes")}, bodyOf(n2(2), n2(1), n1(2), n8(3), n8(4), n2(7), n8(6), n2(5), "bytes")},
		{api.Letter{Kind: api.LPart, From: 2, To: 1, Epoch: 3, Data: piece}, bodyOf(n2(2), n2(1), n1(0), n8(3), n8(0), n2(0), n8(0), n2(1024), piece)},
		{api.Letter{Kind: api.LQuery, From: 2, To: 1, Chain: 2, Epoch: 3, Num: 4, Key: 5}, bodyOf(n2(2), n2(1), n1(2), n8(3), n8(4), n4(5))},
		{api.Letter{Kind: api.LTold, From: 2, To: 1, Chain: 2, Epoch: 3, Num: 4, Key: 5, Ver: 6}, bodyOf(n2(2), n2(1), n1(2), n8(3), n8(4), n4(5), n8(6))},
		{api.Letter{Kind: api.LWrite, From: 202, To: 1, Chain: 2, Epoch: 3, Updates: []api.Update{asked}}, bodyOf(n2(202), n2(1), n1(2), n8(3), n1(1), n8(0), n1(2), n8(77), n1(3), n4(258), n8(3), n2(3), "xyz")},
		{api.Letter{Kind: api.LWrote, From: 1, To: 202, Num: 2, Code: 255, Ver: 3}, bodyOf(n2(1), n2(202), n8(2), n1(255), n8(3))},
		{api.Letter{Kind: api.LWrote, From: 1, To: 202}, bodyOf(n2(1), n2(202), n8(0), n1(0), n8(0))},
		{api.Letter{Kind: api.LRead, From: 203, To: 1, Chain: 2, Epoch: 3, Num: 4, Key: 1<<32 - 1}, bodyOf(n2(203), n2(1), n1(2), n8(3), n8(4), n4(1<<32-1))},
		{api.Letter{Kind: api.LGot, From: 1, To: 203, Num: 4, Key: 5, Ver: 6, Data: []byte{0}}, bodyOf(n2(1), n2(203), n8(4), n4(5), n8(6), n2(1), n1(0))},
		{api.Letter{Kind: api.LGot, From: 1, To: 203, Data: value}, bodyOf(n2(1), n2(203), n8(0), n4(0), n8(0), n2(2048), value)},
	}
}

// change gives a field of a letter another value.
type change struct {
	field string
	to    func(l *api.Letter)
}

// wrongParts are values that no letter may have in that field if it has that part.
func wrongParts() []change {
	var l []change
	add := func(field string, to func(l *api.Letter)) { l = append(l, change{field, to}) }
	for _, b := range []uint64{0, 1, 7, 8, 14, 15, 16, lastBallot + 1, lastBallot + 4, most - 2, most} {
		add("Ballot", func(l *api.Letter) { l.Ballot = b })
	}
	for _, slot := range []int{-1, 513, 1 << 16, 1<<16 + 1, 1 << 32, math.MinInt, math.MaxInt} {
		add("Slot", func(l *api.Letter) { l.Slot = slot })
	}
	for _, chain := range []int{-1, 4, 255, 256, 257, 1 << 32, math.MinInt, math.MaxInt} {
		add("Chain", func(l *api.Letter) { l.Chain = chain })
	}
	for _, code := range []api.Errno{-1, 256, 257, 1 << 32, math.MinInt, math.MaxInt} {
		add("Code", func(l *api.Letter) { l.Code = code })
	}
	for _, c := range []api.Cmd{{Kind: 5}, {Kind: -1}, {Node: 1}, {Kind: api.Remove}, {Kind: api.Remove, Chain: 4, Epoch: 1, Node: 1}, {Kind: api.Settle, Epoch: 1, Node: 25}} {
		add("Cmd", func(l *api.Letter) { l.Cmd = c })
	}
	for _, c := range []api.Conf{{}, {Epoch: 1}, {Epoch: 1, Nodes: []int{1, 1}}, {Nodes: []int{1}}, {Epoch: 1, Nodes: []int{1}, Fresh: true}, {Epoch: 1, Nodes: []int{1}, Join: 1}, {Chain: 4, Epoch: 1, Nodes: []int{1}}} {
		add("Conf", func(l *api.Letter) { l.Conf = c })
	}
	add("Epoch", func(l *api.Letter) { l.Epoch = 0 })
	return l
}

// otherParts are for each field a value that is not zero, and that it could have in some letter.
func otherParts() []change {
	return []change{
		{"Chain", func(l *api.Letter) { l.Chain = 1 }},
		{"Epoch", func(l *api.Letter) { l.Epoch = 1 }},
		{"Ballot", func(l *api.Letter) { l.Ballot = 9 }},
		{"Num", func(l *api.Letter) { l.Num = 1 }},
		{"Seq", func(l *api.Letter) { l.Seq = 1 }},
		{"Done", func(l *api.Letter) { l.Done = 1 }},
		{"Ver", func(l *api.Letter) { l.Ver = 1 }},
		{"Slot", func(l *api.Letter) { l.Slot = 1 }},
		{"Key", func(l *api.Letter) { l.Key = 1 }},
		{"Code", func(l *api.Letter) { l.Code = 1 }},
		{"Cmd", func(l *api.Letter) { l.Cmd = api.Cmd{Kind: api.Remove, Epoch: 1, Node: 1} }},
		{"Conf", func(l *api.Letter) { l.Conf = api.Conf{Epoch: 1, Nodes: []int{1}} }},
		{"Votes", func(l *api.Letter) { l.Votes = []api.Vote{{Ballot: 9}} }},
		{"Updates", func(l *api.Letter) { l.Updates = []api.Update{{Seq: 1, Client: 1, Num: 1, Kind: api.Write}} }},
		{"Data", func(l *api.Letter) { l.Data = []byte{0} }},
	}
}

// has are the fields of the kinds, as the document's table lists them.
func has(kind int) []string {
	return map[int][]string{
		api.LPrepare: {"Ballot", "Slot"}, api.LAccepted: {"Ballot", "Slot"}, api.LBeat: {"Ballot", "Slot"},
		api.LPromise: {"Ballot", "Slot", "Votes"}, api.LAccept: {"Ballot", "Slot", "Cmd"}, api.LChosen: {"Slot", "Cmd"}, api.LWant: {"Slot"}, api.LRefuse: {"Ballot"},
		api.LReport: {"Cmd"}, api.LLocate: {"Chain"}, api.LConfig: {"Conf"},
		api.LPush: {"Chain", "Epoch", "Seq", "Done", "Updates"}, api.LAck: {"Chain", "Epoch", "Seq", "Done", "Num", "Slot"}, api.LPart: {"Chain", "Epoch", "Seq", "Slot", "Num", "Data"},
		api.LQuery: {"Chain", "Epoch", "Num", "Key"}, api.LTold: {"Chain", "Epoch", "Num", "Key", "Ver"}, api.LWrite: {"Chain", "Epoch", "Updates"},
		api.LWrote: {"Num", "Code", "Ver"}, api.LRead: {"Chain", "Epoch", "Num", "Key"}, api.LGot: {"Num", "Key", "Ver", "Data"},
	}[kind]
}

// wrongs are letters that are not valid, though their kinds exist.
func wrongs() []api.Letter {
	var l []api.Letter
	for _, s := range samples() {
		changed := func(to func(l *api.Letter)) {
			x := s.l
			to(&x)
			l = append(l, x)
		}
		for _, c := range wrongParts() {
			if slices.Contains(has(s.l.Kind), c.field) {
				changed(c.to)
			}
		}
		for _, c := range otherParts() {
			if !slices.Contains(has(s.l.Kind), c.field) {
				changed(c.to)
			}
		}
		for _, a := range noAddresses() {
			changed(func(l *api.Letter) { l.From = a })
			changed(func(l *api.Letter) { l.To = a })
		}
	}
	return append(l, wrongLists()...)
}

func noAddresses() []int {
	return []int{0, -1, 25, 100, 106, 200, 207, 301, 256 + 1, 1<<16 + 1, 1<<32 + 1, math.MinInt, math.MinInt + 1, math.MinInt + 101, math.MinInt + 201, math.MaxInt}
}

// wrongLists are letters with votes, updates or Data that may not be.
func wrongLists() []api.Letter {
	promise := api.Letter{Kind: api.LPromise, From: 101, To: 102, Ballot: 9}
	push := api.Letter{Kind: api.LPush, From: 1, To: 2, Epoch: 1}
	write := api.Letter{Kind: api.LWrite, From: 201, To: 2, Epoch: 1}
	part := api.Letter{Kind: api.LPart, From: 1, To: 2, Epoch: 1, Data: make([]byte, 1025)}
	got := api.Letter{Kind: api.LGot, From: 1, To: 201, Data: make([]byte, 2049)}
	l := []api.Letter{part, got}
	good := api.Update{Seq: 1, Client: 1, Num: 1, Kind: api.Write}
	asked := api.Update{Client: 1, Num: 1, Kind: api.Write}
	for _, votes := range [][]api.Vote{
		{{Slot: 512, Ballot: 9}}, {{Slot: -1, Ballot: 9}}, {{Slot: 1, Ballot: 9}, {Slot: 1, Ballot: 10}}, {{Slot: 2, Ballot: 9}, {Slot: 1, Ballot: 9}}, {{Slot: 0, Ballot: 9}, {Slot: 0, Ballot: 9}},
		{{Slot: 1, Ballot: 9}, {Slot: 5, Ballot: 9}, {Slot: 3, Ballot: 9}}, {{Slot: 1}}, {{Slot: 1, Ballot: 8}}, {{Slot: 1, Ballot: 9, Cmd: api.Cmd{Kind: 7}}}, {{Slot: 1, Ballot: 9, Cmd: api.Cmd{Kind: api.Remove}}},
		make([]api.Vote, 513), {{Slot: math.MinInt, Ballot: 9}}, {{Slot: math.MaxInt, Ballot: 9}}, {{Slot: 1, Ballot: 9}, {Slot: 2, Ballot: 9}, {}},
	} {
		promise.Votes = votes
		l = append(l, promise)
	}
	for _, updates := range [][]api.Update{{asked}, {good, asked}, {good, good, good, good, good}} {
		push.Updates = updates
		l = append(l, push)
	}
	for _, updates := range [][]api.Update{nil, {}, {good}, {asked, asked}, {asked, good}} {
		write.Updates = updates
		l = append(l, write)
	}
	for _, change := range wrongUpdates() {
		bad, badAsked := good, asked
		change(&bad)
		change(&badAsked)
		push.Updates, write.Updates = []api.Update{good, bad}, []api.Update{badAsked}
		l = append(l, push, write)
	}
	return l
}

// wrongUpdates are changes by which an update is neither one of a chain nor one of a client.
func wrongUpdates() []func(u *api.Update) {
	l := []func(u *api.Update){
		func(u *api.Update) { u.Num = 0 }, func(u *api.Update) { u.Ver = 1 }, func(u *api.Update) { u.Ver = most }, func(u *api.Update) { u.Data = make([]byte, 2049) }, func(u *api.Update) { u.Data = make([]byte, 65536) },
	}
	for _, client := range []int{0, -1, 7, 201, 257, 1<<32 + 1, math.MinInt, math.MaxInt} {
		l = append(l, func(u *api.Update) { u.Client = client })
	}
	for _, kind := range []int{0, 1, 4, -1, 258, 1<<32 + 2, math.MinInt, math.MaxInt} {
		l = append(l, func(u *api.Update) { u.Kind = kind })
	}
	return l
}

// same says whether two letters are equal, by a text of all that they have.
func same(a, b api.Letter) bool {
	return tell(a) == tell(b)
}

func tell(l api.Letter) string {
	var s string
	num := func(l ...uint64) {
		for _, n := range l {
			s += strconv.FormatUint(n, 10) + " "
		}
	}
	cmd := func(c api.Cmd) { num(uint64(c.Kind), uint64(c.Chain), c.Epoch, uint64(c.Node)) }
	num(uint64(l.Kind), uint64(l.From), uint64(l.To), uint64(l.Chain), l.Epoch, l.Ballot, l.Num, l.Seq, l.Done, l.Ver, uint64(l.Slot), uint64(l.Key), uint64(l.Code))
	cmd(l.Cmd)
	num(uint64(l.Conf.Chain), l.Conf.Epoch, uint64(l.Conf.Join))
	s += strconv.FormatBool(l.Conf.Fresh) + " nodes "
	for _, node := range l.Conf.Nodes {
		num(uint64(node))
	}
	s += "votes "
	for _, v := range l.Votes {
		num(uint64(v.Slot), v.Ballot)
		cmd(v.Cmd)
	}
	for _, u := range l.Updates {
		s += tellUpdate(u)
	}
	return s + "data " + strconv.Quote(string(l.Data))
}

func tellUpdate(u api.Update) string {
	s := "update "
	for _, n := range []uint64{u.Seq, uint64(u.Client), u.Num, uint64(u.Kind), uint64(u.Key), u.Ver} {
		s += strconv.FormatUint(n, 10) + " "
	}
	return s + strconv.Quote(string(u.Data)) + " "
}

// P10.1: whose an address is.
func TestAddresses(t *testing.T) {
	for a := -5; a < 1000; a++ {
		node, master, client := a >= 1 && a <= 24, a >= 101 && a <= 105, a >= 201 && a <= 206
		if letter.Node(a) != node || letter.Master(a) != master || letter.Client(a) != client || letter.Address(a) != (node || master || client) {
			t.Error(a, letter.Node(a), letter.Master(a), letter.Client(a), letter.Address(a))
		}
	}
	for _, a := range noAddresses() {
		if letter.Node(a) || letter.Master(a) || letter.Client(a) || letter.Address(a) {
			t.Error(a, "is an address")
		}
	}
}

// P10.1: which letters are valid.
func TestCheck(t *testing.T) {
	seen := map[int]bool{}
	for _, s := range samples() {
		seen[s.l.Kind] = true
		if e := letter.Check(s.l); e != api.OK {
			t.Error(tell(s.l), "is", int(e))
		}
	}
	if len(seen) != api.Letters {
		t.Error("of", len(seen), "kinds")
	}
	for _, l := range wrongs() {
		if e := letter.Check(l); e != api.ErrForm {
			t.Errorf("%.200s is %d", tell(l), int(e))
		}
	}
}

// P10.1: a kind that does not exist is said first.
func TestCheckOfNoKind(t *testing.T) {
	for _, kind := range []int{0, -1, 21, 22, 255, 256, 257, 1<<32 + 1, math.MinInt, math.MaxInt} {
		for _, l := range []api.Letter{{Kind: kind}, {Kind: kind, From: 1, To: 2}, {Kind: kind, From: -1, Slot: -1, Chain: 99}} {
			if e := letter.Check(l); e != api.ErrArg {
				t.Error(kind, "is", int(e))
			}
			if b, e := letter.Encode(frame.New(nil), l); len(b) != 0 || e != api.ErrArg {
				t.Error(kind, "is", b, int(e))
			}
		}
	}
}

// P10.1: the edges of what is permitted.
func TestCheckAtTheEdges(t *testing.T) {
	votes := make([]api.Vote, 512)
	for slot := range votes {
		votes[slot] = api.Vote{Slot: slot, Ballot: uint64(slot+1)*8 + 5}
	}
	l := []api.Letter{{Kind: api.LPromise, From: 105, To: 101, Ballot: 9, Slot: 512, Votes: votes}}
	for _, slot := range []int{0, 1, 511, 512} {
		l = append(l, api.Letter{Kind: api.LWant, From: 101, To: 101, Slot: slot}, api.Letter{Kind: api.LAck, From: 1, To: 1, Epoch: 1, Slot: slot}, api.Letter{Kind: api.LPart, From: 24, To: 201, Epoch: 1, Slot: slot})
	}
	for _, b := range []uint64{9, 13, 17, lastBallot - 4, lastBallot} {
		l = append(l, api.Letter{Kind: api.LRefuse, From: 101, To: 101, Ballot: b})
	}
	for chain := range 4 {
		l = append(l, api.Letter{Kind: api.LLocate, From: 1, To: 101, Chain: chain})
	}
	for code := range 256 {
		l = append(l, api.Letter{Kind: api.LWrote, From: 1, To: 206, Code: api.Errno(code)})
	}
	for client := 1; client <= 6; client++ {
		u := api.Update{Client: client, Num: most, Kind: api.Compare, Ver: most, Data: wide(2048)}
		l = append(l, api.Letter{Kind: api.LWrite, From: 206, To: 24, Epoch: most, Updates: []api.Update{u}})
		u.Seq = most
		l = append(l, api.Letter{Kind: api.LPush, From: 206, To: 24, Epoch: most, Updates: []api.Update{u, u, u, u}})
	}
	for _, x := range l {
		if e := letter.Check(x); e != api.OK {
			t.Errorf("%.200s is %d", tell(x), int(e))
		}
		wantBack(t, frame.New(nil), x)
	}
}

// P10.1: empty slices are no parts, as nil ones are.
func TestCheckOfEmptySlices(t *testing.T) {
	for _, s := range samples() {
		l := s.l
		if len(l.Conf.Nodes) == 0 {
			l.Conf.Nodes = []int{}
		}
		if len(l.Votes) == 0 {
			l.Votes = []api.Vote{}
		}
		if len(l.Updates) == 0 {
			l.Updates = []api.Update{}
		}
		if len(l.Data) == 0 {
			l.Data = []byte{}
		}
		if e := letter.Check(l); e != api.OK || !letter.Same(l, s.l) {
			t.Error(tell(l), "is", int(e))
		}
	}
}

// P10.1: letters are equal if all parts are.
func TestSame(t *testing.T) {
	var l []api.Letter
	for _, s := range samples() {
		l = append(l, s.l)
	}
	for _, at := range []int{0, 2, 13, 16, 19, 22} {
		for _, c := range otherParts() {
			x := l[at]
			c.to(&x)
			l = append(l, x)
		}
	}
	l = append(l, api.Letter{}, api.Letter{Kind: 1}, api.Letter{From: 1}, api.Letter{To: 1}, api.Letter{Conf: api.Conf{Chain: 1}}, api.Letter{Conf: api.Conf{Epoch: 1}}, api.Letter{Conf: api.Conf{Join: 1}}, api.Letter{Conf: api.Conf{Fresh: true}},
		api.Letter{Conf: api.Conf{Nodes: []int{1}}}, api.Letter{Conf: api.Conf{Nodes: []int{1, 2}}}, api.Letter{Cmd: api.Cmd{Kind: 1}}, api.Letter{Cmd: api.Cmd{Chain: 1}}, api.Letter{Cmd: api.Cmd{Epoch: 1}}, api.Letter{Cmd: api.Cmd{Node: 1}},
		api.Letter{Votes: make([]api.Vote, 1)}, api.Letter{Votes: make([]api.Vote, 2)}, api.Letter{Votes: []api.Vote{{Slot: 1}}}, api.Letter{Votes: []api.Vote{{Ballot: 1}}}, api.Letter{Votes: []api.Vote{{Cmd: api.Cmd{Node: 1}}}},
		api.Letter{Updates: make([]api.Update, 1)}, api.Letter{Updates: make([]api.Update, 2)}, api.Letter{Updates: []api.Update{{Data: []byte{1}}}})
	for _, a := range l {
		for _, b := range l {
			b.Data, b.Conf.Nodes, b.Votes, b.Updates = slices.Clone(b.Data), slices.Clone(b.Conf.Nodes), slices.Clone(b.Votes), slices.Clone(b.Updates)
			if got := letter.Same(a, b); got != same(a, b) {
				t.Errorf("%.200s and %.200s: %v", tell(a), tell(b), got)
			}
		}
	}
}

// P10.1: updates are equal if all their fields are.
func TestSameUpdate(t *testing.T) {
	l := []api.Update{{}, {Seq: 1}, {Client: 1}, {Num: 1}, {Kind: 1}, {Key: 1}, {Ver: 1}, {Data: []byte{1}}, {Data: []byte{2}}, {Data: []byte{1, 1}}, {Seq: 1, Client: 1, Num: 1, Kind: 1, Key: 1, Ver: 1, Data: []byte{1}}, {Client: -1}, {Data: []byte{}}}
	for _, a := range l {
		for _, b := range l {
			if got := letter.SameUpdate(a, b); got != (tellUpdate(a) == tellUpdate(b)) {
				t.Error(a, b, got)
			}
		}
	}
}

// P10.1: the kinds' names.
func TestName(t *testing.T) {
	names := []string{"", "prepare", "promise", "accept", "accepted", "chosen", "beat", "want", "refuse", "report", "locate", "config", "push", "ack", "part", "query", "told", "write", "wrote", "read", "got", ""}
	for kind, want := range names {
		if got := letter.Name(kind); got != want {
			t.Error(kind, "is", got)
		}
	}
	for _, kind := range []int{-1, 22, 256, 257, 1<<32 + 1, math.MinInt, math.MaxInt} {
		if got := letter.Name(kind); got != "" {
			t.Error(kind, "is", got)
		}
	}
}

// framed returns the bytes of a frame, made without the program's frames.
func framed(kind byte, body []byte) []byte {
	b := bodyOf(n1(uint64(kind)), n2(uint64(len(body))), body)
	sum := crc.Slow(b)
	return append(b, byte(sum), byte(sum>>8), byte(sum>>16), byte(sum>>24))
}

// P10.2: a letter's bytes.
func TestEncode(t *testing.T) {
	c := frame.New(nil)
	for _, s := range samples() {
		was := tell(s.l)
		b, e := letter.Encode(c, s.l)
		if e != api.OK || !bytes.Equal(b, framed(byte(s.l.Kind), s.body)) {
			t.Errorf("%.200s is % .200x, error %d", was, b, int(e))
		}
		if tell(s.l) != was {
			t.Error(was, "was changed to", tell(s.l))
		}
	}
	for _, l := range wrongs() {
		if b, e := letter.Encode(c, l); len(b) != 0 || e != api.ErrForm {
			t.Errorf("%.200s is % .200x, error %d", tell(l), b, int(e))
		}
	}
	if good, bad := c.Counts(); good != 0 || bad != 0 {
		t.Error("the codec counts", good, bad)
	}
}

// P10.2: the document's example.
func TestExample(t *testing.T) {
	b, e := letter.Encode(frame.New(nil), api.Letter{Kind: api.LLocate, From: 3, To: 101, Chain: 2})
	if e != api.OK || !bytes.Equal(b[:8], []byte{10, 0, 5, 0, 3, 0, 101, 2}) || len(b) != 12 {
		t.Error(b, int(e))
	}
}

// P10.2: without a codec nothing is encoded or decoded, whatever else is wrong.
func TestNilCodec(t *testing.T) {
	for _, l := range []api.Letter{samples()[0].l, {}, {Kind: 99}, {Kind: 1}} {
		if b, e := letter.Encode(nil, l); len(b) != 0 || e != api.ErrNil {
			t.Error(b, int(e))
		}
	}
	for _, b := range [][]byte{nil, {0, 0, 0}, framed(1, samples()[0].body), framed(99, nil)} {
		if l, e := letter.Decode(nil, b); !same(l, api.Letter{}) || e != api.ErrNil {
			t.Error(tell(l), int(e))
		}
	}
}

func wantDecode(t *testing.T, name string, b []byte, want api.Letter, wantErr api.Errno) {
	t.Helper()
	was := slices.Clone(b)
	l, e := letter.Decode(frame.New(nil), b)
	if !same(l, want) || e != wantErr || !bytes.Equal(b, was) {
		t.Errorf("%s: % .100x is %.200s, error %d; want %.200s, %d", name, b, tell(l), int(e), tell(want), int(wantErr))
	}
}

// P10.2: a letter comes from its bytes, and from no fewer, no more, and no others.
func TestDecode(t *testing.T) {
	for _, s := range samples() {
		kind := byte(s.l.Kind)
		wantDecode(t, "whole", framed(kind, s.body), s.l, api.OK)
		for n := range s.body {
			if n < 64 || n%97 == 0 || n >= len(s.body)-4 {
				wantDecode(t, "a shorter body", framed(kind, s.body[:n]), api.Letter{}, api.ErrForm)
			}
		}
		for _, more := range [][]byte{{0}, {1}, make([]byte, 100)} {
			wantDecode(t, "a longer body", framed(kind, append(slices.Clone(s.body), more...)), api.Letter{}, api.ErrForm)
		}
		for _, a := range []byte{0, 25, 100, 106, 200, 207, 255} {
			for _, at := range []int{1, 3} {
				body := slices.Clone(s.body)
				body[at] = a
				wantDecode(t, "no address", framed(kind, body), api.Letter{}, api.ErrForm)
				body[at], body[at-1] = s.body[at], 1
				wantDecode(t, "no address", framed(kind, body), api.Letter{}, api.ErrForm)
			}
		}
	}
}

// P10.2: the errors of frames come first, then that of the kind.
func TestDecodeErrorsInOrder(t *testing.T) {
	body := samples()[0].body
	good := framed(1, body)
	wantDecode(t, "nothing", nil, api.Letter{}, api.ErrShort)
	for n := range good {
		wantDecode(t, "too few", good[:n], api.Letter{}, api.ErrShort)
	}
	wantDecode(t, "no kind", framed(0, body), api.Letter{}, api.ErrForm)
	wantDecode(t, "too long", []byte{1, 255, 255, 0}, api.Letter{}, api.ErrLong)
	wantDecode(t, "more behind", append(slices.Clone(good), 0), api.Letter{}, api.ErrForm)
	sum := slices.Clone(good)
	sum[len(sum)-1] ^= 1
	wantDecode(t, "wrong sum", sum, api.Letter{}, api.ErrSum)
	for kind := 21; kind <= 255; kind++ {
		wantDecode(t, "a kind of no letter", framed(byte(kind), body), api.Letter{}, api.ErrArg)
		wantDecode(t, "a kind of no letter", framed(byte(kind), nil), api.Letter{}, api.ErrArg)
		wantDecode(t, "more behind a kind of no letter", append(framed(byte(kind), body), 9), api.Letter{}, api.ErrForm)
	}
	for kind := 1; kind <= 20; kind++ {
		wantDecode(t, "no body", framed(byte(kind), nil), api.Letter{}, api.ErrForm)
		wantDecode(t, "addresses alone", framed(byte(kind), []byte{0, 1, 0, 2}), api.Letter{}, api.ErrForm)
	}
}

// P10.2: bodies whose parts are not valid, each with nothing else that is wrong.
func TestDecodeOfWrongParts(t *testing.T) {
	cmd := bodyOf(n1(1), n1(1), n8(20), n1(3))
	badCmds := [][]byte{bodyOf(n1(5), n1(1), n8(20), n1(3)), bodyOf(n1(1), n1(4), n8(20), n1(3)), bodyOf(n1(1), n1(1), n8(0), n1(3)), bodyOf(n1(1), n1(1), n8(20), n1(25)), bodyOf(n1(0), n1(1), n8(0), n1(0))}
	ends := bodyOf(n2(101), n2(102))
	wrong := func(kind int, parts ...any) {
		t.Helper()
		wantDecode(t, letter.Name(kind), framed(byte(kind), bodyOf(append([]any{ends}, parts...)...)), api.Letter{}, api.ErrForm)
	}
	for _, b := range []uint64{0, 8, 14, most} {
		wrong(api.LPrepare, n8(b), n2(1))
		wrong(api.LRefuse, n8(b))
		wrong(api.LPromise, n8(9), n2(1), n2(1), n2(1), n8(b), cmd)
	}
	for _, slot := range []uint64{513, 65535} {
		wrong(api.LBeat, n8(9), n2(slot))
		wrong(api.LWant, n2(slot))
		wrong(api.LChosen, n2(slot), cmd)
		wrong(api.LAck, n1(0), n8(1), n8(0), n8(0), n8(0), n2(slot))
	}
	for _, c := range badCmds {
		wrong(api.LReport, c)
		wrong(api.LAccept, n8(9), n2(1), c)
		wrong(api.LPromise, n8(9), n2(1), n2(1), n2(1), n8(9), c)
		wrong(api.LPromise, n8(9), n2(1), n2(2), n2(1), n8(9), c, n2(2), n8(9), cmd)
	}
	wrong(api.LPromise, n8(9), n2(1), n2(1), n2(512), n8(9), cmd)
	wrong(api.LPromise, n8(9), n2(1), n2(2), n2(2), n8(9), cmd, n2(2), n8(9), cmd)
	wrong(api.LPromise, n8(9), n2(1), n2(2), n2(2), n8(9), cmd, n2(1), n8(9), cmd)
	wrong(api.LPromise, n8(9), n2(1), n2(1))
	wrong(api.LPromise, n8(9), n2(1), n2(513), make([]byte, 513*21))
	wrong(api.LLocate, n1(4))
	wrong(api.LQuery, n1(0), n8(0), n8(0), n4(0))
	wrong(api.LConfig, n1(0), n8(1), n1(0), n1(0), n1(2), n1(1), n1(1))
	wrong(api.LConfig, n1(0), n8(1), n1(2), n1(0), n1(2), n1(1), n1(3))
	wrong(api.LConfig, n1(0), n8(1), n1(0), n1(0), n1(6), n1(1), n1(2), n1(3), n1(4), n1(5), n1(6))
	wrong(api.LConfig, n1(0), n8(0), n1(0), n1(0), n1(1), n1(1))
	wrong(api.LPart, n1(0), n8(1), n8(0), n2(0), n8(0), n2(1025), wide(1025))
	wrong(api.LGot, n8(0), n4(0), n8(0), n2(2049), wide(2049))
}

// P10.2: bodies with updates that are not valid.
func TestDecodeOfWrongUpdates(t *testing.T) {
	good := bodyOf(n8(1), n1(1), n8(1), n1(2), n4(0), n8(0), n2(0))
	asked := bodyOf(n8(0), n1(1), n8(1), n1(2), n4(0), n8(0), n2(0))
	ends := bodyOf(n2(1), n2(2), n1(0), n8(1))
	push := func(parts ...any) []byte {
		return framed(api.LPush, bodyOf(append([]any{ends, n8(0), n8(0)}, parts...)...))
	}
	write := func(parts ...any) []byte { return framed(api.LWrite, bodyOf(append([]any{ends}, parts...)...)) }
	if _, e := letter.Decode(frame.New(nil), push(n1(4), good, good, good, good)); e != api.OK {
		t.Error("a good push is", int(e))
	}
	if _, e := letter.Decode(frame.New(nil), write(n1(1), asked)); e != api.OK {
		t.Error("a good write is", int(e))
	}
	for _, b := range [][]byte{push(n1(1), asked), push(n1(5), good, good, good, good, good), push(n1(2), good), push(n1(1), good, good), push(n1(255)), write(n1(0)), write(n1(1), good), write(n1(2), asked, asked), write(n1(1))} {
		wantDecode(t, "updates", b, api.Letter{}, api.ErrForm)
	}
	for _, s := range []struct {
		at int
		to byte
	}{{8, 0}, {8, 7}, {8, 201}, {16, 0}, {17, 0}, {17, 1}, {17, 4}, {17, 255}, {29, 1}, {22, 1}, {30, 8}, {31, 1}} {
		bad, badAsked := slices.Clone(good), slices.Clone(asked)
		bad[s.at], badAsked[s.at] = s.to, s.to
		wantDecode(t, "an update", push(n1(1), bad), api.Letter{}, api.ErrForm)
		wantDecode(t, "a second update", push(n1(2), good, bad), api.Letter{}, api.ErrForm)
		wantDecode(t, "a request", write(n1(1), badAsked), api.Letter{}, api.ErrForm)
	}
	long := bodyOf(n8(1), n1(1), n8(1), n1(2), n4(0), n8(0), n2(2049), wide(2049))
	wantDecode(t, "a long update", push(n1(1), long), api.Letter{}, api.ErrForm)
}

// P10.2: what is encoded and decoded is counted as the codec's frames are.
func TestDecodeCounts(t *testing.T) {
	c := frame.New(nil)
	good := framed(1, samples()[0].body)
	letter.Decode(c, good)
	letter.Decode(c, good)
	letter.Decode(c, good[:5])
	if good, bad := c.Counts(); good != 2 || bad != 1 {
		t.Error(good, bad)
	}
}

// P10.3: an update's bytes, and the update of them.
func TestPutAndGetUpdate(t *testing.T) {
	o := fix.New(1 << 20)
	o.Put(7, 1)
	want := []byte{7}
	l := []api.Update{{}, {Seq: 1, Client: 2, Num: 3, Kind: 4, Key: 5, Ver: 6, Data: []byte("ab")}, {Seq: most, Client: 255, Num: most, Kind: 255, Key: 1<<32 - 1, Ver: most, Data: wide(2048)}, {Seq: 0x0102030405060708, Key: 0x01020304}}
	for _, u := range l {
		was := tellUpdate(u)
		letter.PutUpdate(o, u)
		want = append(want, bodyOf(n8(u.Seq), n1(uint64(u.Client)), n8(u.Num), n1(uint64(u.Kind)), n4(uint64(u.Key)), n8(u.Ver), n2(uint64(len(u.Data))), u.Data)...)
		if tellUpdate(u) != was {
			t.Error(was, "was changed")
		}
	}
	b, e := o.Done()
	if e != api.OK || !bytes.Equal(b, want) {
		t.Fatalf("% x, error %d", b, int(e))
	}
	i := fix.Of(append(b[1:], 9))
	for _, u := range l {
		if got := letter.GetUpdate(i); tellUpdate(got) != tellUpdate(u) {
			t.Error(tellUpdate(got), "want", tellUpdate(u))
		}
	}
	if i.Left() != 1 || i.Err() != api.OK {
		t.Error("what follows", i.Left(), int(i.Err()))
	}
}

// P10.3: what has no bytes is reported by the Out, whatever the fields are.
func TestPutUpdateErrors(t *testing.T) {
	letter.PutUpdate(nil, api.Update{})
	for _, x := range []struct {
		u    api.Update
		most int
		e    api.Errno
	}{
		{api.Update{Client: -1}, 9999, api.ErrForm}, {api.Update{Client: 256}, 9999, api.ErrForm}, {api.Update{Client: math.MinInt}, 9999, api.ErrForm}, {api.Update{Client: math.MaxInt}, 9999, api.ErrForm},
		{api.Update{Kind: -1}, 9999, api.ErrForm}, {api.Update{Kind: 256}, 9999, api.ErrForm}, {api.Update{Kind: math.MinInt}, 9999, api.ErrForm},
		{api.Update{Data: make([]byte, 65536)}, 99999, api.ErrForm}, {api.Update{Data: make([]byte, 65535)}, 99999, api.OK}, {api.Update{Data: make([]byte, 2049)}, 9999, api.OK},
		{api.Update{}, 32, api.OK}, {api.Update{}, 31, api.ErrLong}, {api.Update{}, 0, api.ErrLong}, {api.Update{Data: []byte("a")}, 32, api.ErrLong}, {api.Update{Client: -1}, 5, api.ErrLong}, {api.Update{Client: -1}, 8, api.ErrForm},
	} {
		o := fix.New(x.most)
		letter.PutUpdate(o, x.u)
		if b, e := o.Done(); e != x.e || e != api.OK && len(b) != 0 {
			t.Error(x.u.Client, x.u.Kind, len(x.u.Data), "among", x.most, "is", len(b), int(e))
		}
	}
}

// P10.3: what can't be read is reported by the In, and nothing of it is told.
func TestGetUpdateErrors(t *testing.T) {
	wantZero := func(name string, i *fix.In, want api.Errno) {
		t.Helper()
		if u := letter.GetUpdate(i); tellUpdate(u) != tellUpdate(api.Update{}) || i.Err() != want {
			t.Error(name, "is", tellUpdate(u), int(i.Err()), "want", int(want))
		}
	}
	wantZero("nil", nil, api.ErrNil)
	whole := bodyOf(n8(1), n1(2), n8(3), n1(4), n4(5), n8(6), n2(3), "abc")
	for n := range whole {
		wantZero("too few", fix.Of(whole[:n]), api.ErrShort)
	}
	head := whole[:30]
	wantZero("too long", fix.Of(bodyOf(head, n2(2049), make([]byte, 2049))), api.ErrLong)
	wantZero("too long, and too few", fix.Of(bodyOf(head, n2(65535))), api.ErrLong)
	wantZero("too few for the longest", fix.Of(bodyOf(head, n2(2048), make([]byte, 2047))), api.ErrShort)
	i := fix.Of(whole)
	i.Get(9)
	wantZero("behind an error", i, api.ErrArg)
	if u := letter.GetUpdate(fix.Of(bodyOf(head, n2(2048), wide(2048)))); !bytes.Equal(u.Data, wide(2048)) {
		t.Error("the longest", len(u.Data))
	}
}

// P10.3: the Data of an update that was read are nobody else's.
func TestGetUpdateGivesNewMemory(t *testing.T) {
	b := bodyOf(n8(1), n1(2), n8(3), n1(4), n4(5), n8(6), n2(3), "abc", n8(1), n1(2), n8(3), n1(4), n4(5), n8(6), n2(3), "def")
	i := fix.Of(b)
	first := letter.GetUpdate(i)
	_ = append(first.Data, "XXXXXXXXXXXXXXXXXXXXXXXXXXXXXXXXXXXXX"...)
	first.Data[0] = 'X'
	second := letter.GetUpdate(i)
	if string(second.Data) != "def" || second.Seq != 1 || b[32] != 'a' {
		t.Error(second, b)
	}
}

// randomLetter returns a valid letter of any kind.
func randomLetter(r *rand.Rand) api.Letter {
	l := api.Letter{Kind: 1 + r.Intn(20), From: randomAddress(r), To: randomAddress(r)}
	for _, field := range has(l.Kind) {
		switch field {
		case "Ballot":
			l.Ballot = randomBallot(r)
		case "Slot":
			l.Slot = r.Intn(513)
		case "Cmd":
			l.Cmd = randomCmd(r)
		case "Votes":
			l.Votes = randomVotes(r)
		case "Conf":
			l.Conf = randomConf(r)
		case "Chain":
			l.Chain = r.Intn(4)
		case "Epoch":
			l.Epoch = 1 + randomNumber(r)/2
		case "Seq":
			l.Seq = randomNumber(r)
		case "Done":
			l.Done = randomNumber(r)
		case "Num":
			l.Num = randomNumber(r)
		case "Ver":
			l.Ver = randomNumber(r)
		case "Key":
			l.Key = uint32(randomNumber(r))
		case "Code":
			l.Code = api.Errno(r.Intn(256))
		case "Data":
			l.Data = randomData(r, 1024)
		case "Updates":
			l.Updates = randomUpdates(r, l.Kind)
		}
	}
	return l
}

func randomAddress(r *rand.Rand) int {
	return []int{1 + r.Intn(24), 101 + r.Intn(5), 201 + r.Intn(6)}[r.Intn(3)]
}

func randomNumber(r *rand.Rand) uint64 {
	return r.Uint64() >> r.Intn(64)
}

func randomBallot(r *rand.Rand) uint64 {
	return (1+randomNumber(r)>>5)*8 + uint64(1+r.Intn(5))
}

func randomData(r *rand.Rand, most int) []byte {
	b := make([]byte, r.Intn(most+1)>>r.Intn(11))
	r.Read(b)
	return b
}

func randomCmd(r *rand.Rand) api.Cmd {
	if r.Intn(5) == 0 {
		return api.Cmd{}
	}
	return api.Cmd{Kind: 1 + r.Intn(4), Chain: r.Intn(4), Epoch: 1 + randomNumber(r)/2, Node: 1 + r.Intn(24)}
}

func randomVotes(r *rand.Rand) []api.Vote {
	var l []api.Vote
	for slot := r.Intn(600); slot < 512; slot += 1 + r.Intn(100) {
		l = append(l, api.Vote{Slot: slot, Ballot: randomBallot(r), Cmd: randomCmd(r)})
	}
	return l
}

func randomConf(r *rand.Rand) api.Conf {
	nodes := r.Perm(24)
	for at := range nodes {
		nodes[at]++
	}
	n := 1 + r.Intn(5)
	c := api.Conf{Chain: r.Intn(4), Epoch: 1 + randomNumber(r)/2, Nodes: nodes[:n]}
	switch r.Intn(3) {
	case 0:
		c.Join = nodes[n]
	case 1:
		c.Fresh = n > 1
	}
	return c
}

func randomUpdates(r *rand.Rand, kind int) []api.Update {
	l := make([]api.Update, r.Intn(5))
	if kind == api.LWrite {
		l = l[:0]
		l = append(l, api.Update{})
	}
	for at := range l {
		l[at] = api.Update{Client: 1 + r.Intn(6), Num: 1 + randomNumber(r)/2, Kind: 2 + r.Intn(2), Key: uint32(randomNumber(r)), Data: randomData(r, 2048)}
		if l[at].Kind == api.Compare {
			l[at].Ver = randomNumber(r)
		}
		if kind == api.LPush {
			l[at].Seq = 1 + randomNumber(r)/2
		}
	}
	return l
}

func wantBack(t *testing.T, c *frame.Codec, l api.Letter) []byte {
	t.Helper()
	b, e := letter.Encode(c, l)
	if e != api.OK {
		t.Fatalf("%.200s is % .100x, error %d", tell(l), b, int(e))
	}
	back, e := letter.Decode(c, b)
	if e != api.OK || !same(back, l) || !letter.Same(back, l) {
		t.Fatalf("%.200s comes back as %.200s, error %d", tell(l), tell(back), int(e))
	}
	return b
}

// P10.4: each valid letter comes back from its bytes.
func TestLettersComeBack(t *testing.T) {
	r := rand.New(rand.NewSource(104))
	c := frame.New(nil)
	for range 5000 {
		wantBack(t, c, randomLetter(r))
	}
}

// P10.4: what is decoded has these bytes, whatever was changed in a body.
func TestDecodedHasNoOtherBytes(t *testing.T) {
	r := rand.New(rand.NewSource(105))
	c := frame.New(nil)
	decoded := 0
	for range 20000 {
		b, _ := letter.Encode(c, randomLetter(r))
		body := slices.Clone(b[3 : len(b)-4])
		kind := b[0]
		if r.Intn(10) == 0 {
			kind = byte(1 + r.Intn(22))
		}
		for range r.Intn(3) {
			body[r.Intn(len(body))] = byte(r.Intn(256) >> r.Intn(8))
		}
		b = framed(kind, body)
		l, e := letter.Decode(c, b)
		if e != api.OK {
			if !same(l, api.Letter{}) || e != api.ErrForm && e != api.ErrArg {
				t.Fatalf("% .200x is %.200s, error %d", b, tell(l), int(e))
			}
			continue
		}
		decoded++
		back, e := letter.Encode(c, l)
		if e != api.OK || !bytes.Equal(back, b) {
			t.Fatalf("% .200x is %.200s, which is % .200x, error %d", b, tell(l), back, int(e))
		}
	}
	if decoded < 5000 {
		t.Error("decoded", decoded)
	}
}

// P10.4: bits that are flipped within 32 consecutive ones are found.
func TestFlippedLettersAreRejected(t *testing.T) {
	r := rand.New(rand.NewSource(106))
	c := frame.New(nil)
	for _, s := range samples() {
		b := framed(byte(s.l.Kind), s.body)
		for range 300 {
			bit, pattern := r.Intn(8*len(b)), r.Uint32()>>r.Intn(32)
			flipped := crc.Turn(b, bit, pattern)
			if bytes.Equal(flipped, b) {
				continue
			}
			if l, e := letter.Decode(c, flipped); e == api.OK || !same(l, api.Letter{}) {
				t.Fatalf("%.200s, flipped from %d by %x, is %.200s, error %d", tell(s.l), bit, pattern, tell(l), int(e))
			}
		}
		for bit := range min(8*len(b), 500) {
			if _, e := letter.Decode(c, crc.Turn(b, bit, 1)); e == api.OK {
				t.Fatal(tell(s.l), "with the bit", bit, "flipped")
			}
		}
	}
}

// Rule 5: what is decoded is new memory, and its lists share none.
func TestDecodedIsNewMemory(t *testing.T) {
	c := frame.New(nil)
	s := nodeSamples()[2]
	b := framed(byte(s.l.Kind), s.body)
	l, _ := letter.Decode(c, b)
	for at := range b {
		b[at] = 0xee
	}
	if !same(l, s.l) {
		t.Fatal("a letter keeps the bytes that it was decoded from")
	}
	for at := range l.Updates[0].Data {
		l.Updates[0].Data[at] = 0xdd
	}
	_ = append(l.Updates[0].Data, wide(5000)...)
	for at, u := range l.Updates[1:] {
		if !letter.SameUpdate(u, s.l.Updates[at+1]) {
			t.Error("updates share memory")
		}
	}
}
