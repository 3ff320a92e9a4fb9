package store_test

import (
	"bytes"
	"math"
	"math/rand"
	"slices"
	"testing"

	"catenary/api"
	"catenary/fix"
	"catenary/sess"
	"catenary/store"
)

// block is a block as a picture has it.
type block struct {
	key  uint32
	ver  uint64
	seq  uint64
	data string
}

const enough = 1 << 20

// sessions returns the bytes of rows, whatever they are.
func sessions(rows ...sess.Row) []byte {
	o := fix.New(enough)
	o.Put(uint64(len(rows)), 1)
	for _, r := range rows {
		o.Put(uint64(r.Client), 1)
		o.Put(r.Num, 8)
		o.Put(r.Seq, 8)
		o.Put(uint64(r.Code), 1)
		o.Put(r.Ver, 8)
	}
	b, _ := o.Done()
	return b
}

// counted returns the bytes of a picture that tells a number of blocks, whatever they are.
func counted(end uint64, rows []sess.Row, n uint64, blocks ...block) []byte {
	o := fix.New(enough)
	o.Put(end, 8)
	o.Raw(sessions(rows...))
	o.Put(n, 2)
	for _, x := range blocks {
		o.Put(uint64(x.key), 4)
		o.Put(x.ver, 8)
		o.Put(x.seq, 8)
		o.Text([]byte(x.data))
	}
	b, _ := o.Done()
	return b
}

func picture(end uint64, rows []sess.Row, blocks ...block) []byte {
	return counted(end, rows, uint64(len(blocks)), blocks...)
}

// P18.3: the picture of an empty store, which is the chapter's example.
func TestPictureOfEmpty(t *testing.T) {
	if b := store.New().Picture(); !bytes.Equal(b, make([]byte, 11)) {
		t.Error("the picture is", b)
	}
	s, e := store.Load(make([]byte, 11))
	if e != api.OK || s.End() != 0 || len(s.Keys()) != 0 || s.Judge(1, 1) != sess.Fresh {
		t.Fatal("load is", int(e))
	}
	mustMake(t, s, write(1, 1, 1, 1, "a"), sess.Row{Client: 1, Num: 1, Seq: 1, Ver: 1})
}

// P18.3: the bytes of a picture, which has the last versions alone.
func TestPicture(t *testing.T) {
	s := with(t, write(1, 2, 3, 0x01020304, "old"), write(2, 5, 258, 6, "ab"), write(3, 2, 4, 0x01020304, "new"), compare(4, 5, 259, 6, 0, "no"), write(5, 5, 259, 6, "not fresh"))
	want := "\x00\x00\x00\x00\x00\x00\x00\x05" + "\x02" +
		"\x02\x00\x00\x00\x00\x00\x00\x00\x04\x00\x00\x00\x00\x00\x00\x00\x03\x00\x00\x00\x00\x00\x00\x00\x00\x02" +
		"\x05\x00\x00\x00\x00\x00\x00\x01\x03\x00\x00\x00\x00\x00\x00\x00\x04\x0b\x00\x00\x00\x00\x00\x00\x00\x01" +
		"\x00\x02" +
		"\x00\x00\x00\x06\x00\x00\x00\x00\x00\x00\x00\x01\x00\x00\x00\x00\x00\x00\x00\x02\x00\x02ab" +
		"\x01\x02\x03\x04\x00\x00\x00\x00\x00\x00\x00\x02\x00\x00\x00\x00\x00\x00\x00\x03\x00\x03new"
	if b := s.Picture(); string(b) != want {
		t.Errorf("the picture is % x; want % x", b, want)
	}
	s.Trim(5)
	if b := s.Picture(); string(b) != want {
		t.Error("trim changes the picture")
	}
}

// P18.3: a picture of as much as there may be.
func TestPictureOfMost(t *testing.T) {
	s := full(t)
	for i := range uint32(api.MaxKeys) {
		u := write(s.End()+1, 1+int(i%api.MaxClients), 1000+uint64(i), 100+i, string(most))
		if r, e := s.Apply(u); r.Ver != 2 || e != api.OK {
			t.Fatal("apply is", r, int(e))
		}
	}
	b := s.Picture()
	if len(b) != 8+1+6*26+2+api.MaxKeys*(4+8+8+2+api.MaxValue) {
		t.Error("the picture has", len(b), "bytes")
	}
	loaded, e := store.Load(b)
	if e != api.OK || !bytes.Equal(loaded.Picture(), b) {
		t.Error("load is", int(e))
	}
}

// P18.3: what is loaded, with one version a block.
func TestLoad(t *testing.T) {
	rows := []sess.Row{{Client: 1, Num: 7, Seq: 9, Code: api.ErrFull, Ver: 3}, {Client: 6, Num: math.MaxUint64, Seq: 1, Code: 255, Ver: math.MaxUint64}}
	blocks := []block{{0, 5, 9, "zero"}, {7, 1, 1, ""}, {math.MaxUint32, math.MaxUint64, 9, string(most)}}
	s, e := store.Load(picture(9, rows, blocks...))
	if e != api.OK {
		t.Fatal("load is", int(e))
	}
	if s.End() != 9 || !slices.Equal(s.Keys(), []uint32{0, 7, math.MaxUint32}) {
		t.Error("the end is", s.End(), "the keys are", s.Keys())
	}
	for _, x := range blocks {
		mustBe(t, "the last one", s.Last(x.key), x.ver, x.seq, x.data)
		mustBe(t, "the clean one", s.Clean(x.key, x.seq), x.ver, x.seq, x.data)
		mustBe(t, "what is clean before", s.Clean(x.key, x.seq-1), 0, 0, "")
		if s.Dirty(x.key, x.seq) || !s.Dirty(x.key, x.seq-1) {
			t.Error("dirty")
		}
	}
	for _, want := range rows {
		if r, ok := s.Row(want.Client); r != want || !ok {
			t.Error("the row is", r, ok, "want", want)
		}
	}
	if _, ok := s.Row(2); ok || s.Trim(math.MaxUint64) != 0 {
		t.Error("there is more than was loaded")
	}
	mustMake(t, s, compare(10, 1, 8, 0, 5, "next"), sess.Row{Client: 1, Num: 8, Seq: 10, Ver: 6})
	if s.Trim(10) != 1 {
		t.Error("there was more than one version")
	}
	for _, b := range [][]byte{picture(math.MaxUint64, nil), picture(math.MaxUint64, []sess.Row{{Client: 1, Num: 1, Seq: math.MaxUint64}}, block{1, 1, math.MaxUint64, "a"}), picture(1, nil, block{4, 2, 1, "a"}, block{5, 2, 1, "b"})} {
		if s, e := store.Load(b); e != api.OK || !bytes.Equal(s.Picture(), b) {
			t.Error("load is", int(e))
		}
	}
}

func mustFail(t *testing.T, name string, b []byte, want api.Errno) {
	t.Helper()
	before := bytes.Clone(b)
	if s, e := store.Load(b); s != nil || e != want {
		t.Errorf("%s: %v, %d; want %d", name, s != nil, int(e), int(want))
	}
	if !bytes.Equal(b, before) {
		t.Error("load changes its argument")
	}
}

// P18.3: ErrShort of a picture that ends too early, and ErrForm of one that goes on.
func TestLoadShort(t *testing.T) {
	b := picture(9, []sess.Row{{Client: 2, Num: 7, Seq: 9}, {Client: 3, Num: 7, Seq: 8}}, block{3, 5, 9, "zero"}, block{7, 1, 1, ""}, block{8, 1, 2, "a"})
	for end := range b {
		mustFail(t, "too short", b[:end], api.ErrShort)
	}
	mustFail(t, "nil", nil, api.ErrShort)
	mustFail(t, "a byte more", append(bytes.Clone(b), 0), api.ErrForm)
	mustFail(t, "much more", append(bytes.Clone(b), b...), api.ErrForm)
	mustFail(t, "a byte more than nothing", make([]byte, 12), api.ErrForm)
}

// P18.3: the errors of the parts: of the sessions, of the number of blocks, of the Data.
func TestLoadParts(t *testing.T) {
	good := sess.Row{Client: 2, Num: 7, Seq: 9}
	for _, rows := range [][]sess.Row{
		{{Client: 0, Num: 7, Seq: 9}}, {{Client: 7, Num: 7, Seq: 9}}, {{Client: 2, Num: 0, Seq: 9}}, {{Client: 2, Num: 7, Seq: 0}}, {good, good}, {good, {Client: 1, Num: 7, Seq: 9}},
		{good, good, good, good, good, good, good},
	} {
		b := picture(9, rows, block{3, 5, 9, "zero"})
		mustFail(t, "wrong rows", b, api.ErrForm)
		mustFail(t, "wrong rows, and too short", b[:9+len(rows)*26], api.ErrForm)
		mustFail(t, "wrong rows, and too many blocks", counted(9, rows, 193), api.ErrForm)
		mustFail(t, "wrong rows, and too many bytes", picture(9, rows, block{3, 5, 9, string(tooMany)}), api.ErrForm)
	}
	for _, n := range []uint64{193, 194, 256, 65535} {
		mustFail(t, "too many blocks", counted(9, nil, n), api.ErrForm)
		mustFail(t, "too many blocks", counted(9, nil, n, block{1, 1, 1, string(tooMany)}), api.ErrForm)
	}
	mustFail(t, "192 blocks, and none", counted(9, nil, 192), api.ErrShort)
	for _, data := range []string{string(tooMany), string(tooMany) + string(tooMany), string(make([]byte, 65535))} {
		b := picture(9, nil, block{3, 5, 9, "a"}, block{4, 5, 9, data}, block{5, 5, 9, "b"})
		mustFail(t, "too many bytes", b, api.ErrLong)
		mustFail(t, "too many bytes, and more", append(bytes.Clone(b), 0), api.ErrLong)
		mustFail(t, "too many bytes, not all of them there", b[:11+23+22+9], api.ErrLong)
		mustFail(t, "too many bytes, the length cut", b[:11+23+21], api.ErrShort)
	}
	mustFail(t, "too short, and not increasing", counted(9, nil, 3, block{4, 1, 1, ""}, block{3, 0, 0, ""}), api.ErrShort)
	mustFail(t, "too many bytes, and not increasing", picture(9, nil, block{4, 0, 0, ""}, block{3, 1, 1, string(tooMany)}), api.ErrLong)
}

// P18.3: ErrForm of blocks and rows that no store has.
func TestLoadForm(t *testing.T) {
	for _, l := range [][]block{
		{{3, 1, 1, ""}, {3, 1, 1, ""}}, {{4, 1, 1, "a"}, {3, 1, 1, "b"}}, {{1, 1, 1, ""}, {5, 1, 1, ""}, {4, 1, 1, ""}}, {{1, 1, 1, ""}, {5, 1, 1, ""}, {5, 2, 2, ""}}, {{math.MaxUint32, 1, 1, ""}, {0, 1, 1, ""}},
		{{3, 0, 1, ""}}, {{3, 1, 0, ""}}, {{3, 0, 0, ""}}, {{3, 1, 1, ""}, {4, 0, 1, "a"}}, {{3, 1, 1, ""}, {4, 1, 0, "a"}}, {{3, 0, 1, ""}, {4, 1, 1, "a"}},
		{{3, 1, 10, ""}}, {{3, 1, 9, ""}, {4, 1, 10, ""}}, {{3, 1, 10, ""}, {4, 1, 9, ""}}, {{3, 1, math.MaxUint64, ""}},
	} {
		mustFail(t, "blocks", picture(9, nil, l...), api.ErrForm)
		mustFail(t, "blocks", append(picture(9, nil, l...), 0), api.ErrForm)
	}
	for _, rows := range [][]sess.Row{
		{{Client: 1, Num: 1, Seq: 10}}, {{Client: 1, Num: 1, Seq: math.MaxUint64}}, {{Client: 1, Num: 1, Seq: 9}, {Client: 2, Num: 1, Seq: 10}}, {{Client: 1, Num: 1, Seq: 10}, {Client: 2, Num: 1, Seq: 9}},
	} {
		mustFail(t, "rows", picture(9, rows), api.ErrForm)
		mustFail(t, "rows, and blocks", picture(9, rows, block{3, 1, 9, ""}), api.ErrForm)
		b := counted(9, rows, 1)
		mustFail(t, "that blocks end too early comes first", b, api.ErrShort)
	}
	mustFail(t, "a row at the end 0", picture(0, []sess.Row{{Client: 1, Num: 1, Seq: 1}}), api.ErrForm)
	mustFail(t, "a block at the end 0", picture(0, nil, block{1, 1, 1, ""}), api.ErrForm)
}

// randomUpdate returns an update that mostly can be applied to s.
func randomUpdate(r *rand.Rand, s *store.Store) api.Update {
	client := 1 + r.Intn(api.MaxClients)
	row, _ := s.Row(client)
	u := write(s.End()+1, client, max(1, row.Num+uint64(r.Intn(4)))-min(row.Num, uint64(r.Intn(2))), uint32(r.Intn(230)), string(most[:r.Intn(9)]))
	if r.Intn(2) == 0 {
		u.Kind, u.Ver = api.Compare, s.Last(u.Key).Ver+uint64(r.Intn(3)/2)
	}
	if r.Intn(20) == 0 {
		u.Seq += uint64(r.Intn(3)) - 1
	}
	return u
}

// P18.4: a store that is loaded from a picture has that picture; the same updates lead to the same pictures and rows.
func TestTheorem(t *testing.T) {
	r := rand.New(rand.NewSource(184))
	codes := map[api.Errno]int{}
	for range 40 {
		s := store.New()
		for range r.Intn(1200) {
			row, e := s.Apply(randomUpdate(r, s))
			codes[row.Code]++
			codes[100+e]++
			if r.Intn(50) == 0 {
				s.Trim(s.End() - min(s.End(), uint64(r.Intn(20))))
			}
		}
		b := s.Picture()
		x, e := store.Load(b)
		if e != api.OK || !bytes.Equal(x.Picture(), b) || x.End() != s.End() {
			t.Fatal("load is", int(e))
		}
		for range 200 {
			u := randomUpdate(r, s)
			row, e := s.Apply(u)
			if other, f := x.Apply(u); other != row || f != e {
				t.Fatal("apply", u.Seq, "is", row, int(e), "and", other, int(f))
			}
			if r.Intn(20) == 0 {
				x.Trim(x.End() - min(x.End(), uint64(r.Intn(20))))
			}
			if !bytes.Equal(x.Picture(), s.Picture()) {
				t.Fatal("after", u.Seq, "the pictures differ")
			}
		}
	}
	for _, code := range []api.Errno{api.OK, api.ErrFull, api.ErrMatch, 100 + api.OK, 100 + api.ErrState} {
		if codes[code] < 100 {
			t.Error("only", codes[code], "of", int(code))
		}
	}
}

// P18.3, P18.4: what is loaded from any bytes has them as its picture.
func TestLoadRandomBytes(t *testing.T) {
	r := rand.New(rand.NewSource(183))
	loaded := 0
	for range 20000 {
		var rows []sess.Row
		for client := 1; client <= api.MaxClients; client++ {
			if r.Intn(3) == 0 {
				rows = append(rows, sess.Row{Client: client, Num: uint64(1 + r.Intn(3)), Seq: uint64(1 + r.Intn(9)), Code: api.Errno(r.Intn(256)), Ver: r.Uint64()})
			}
		}
		var blocks []block
		for key := range uint32(5) {
			if r.Intn(2) == 0 {
				blocks = append(blocks, block{key, uint64(1 + r.Intn(5)), uint64(1 + r.Intn(9)), string(most[:r.Intn(5)])})
			}
		}
		b := picture(9, rows, blocks...)
		for range r.Intn(3) {
			b[r.Intn(len(b))] = byte(r.Intn(9))
		}
		s, e := store.Load(b)
		if e != api.OK {
			if s != nil {
				t.Fatal("beside an error there is a store")
			}
			continue
		}
		loaded++
		if !bytes.Equal(s.Picture(), b) {
			t.Fatalf("% x has the picture % x", b, s.Picture())
		}
	}
	if loaded < 5000 {
		t.Error("only", loaded, "were loaded")
	}
}
