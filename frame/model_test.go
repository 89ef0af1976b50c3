package frame_test

import (
	"bytes"
	"math"
	"math/rand"
	"reflect"
	"slices"
	"strconv"
	"testing"

	"confluence/api"
	"confluence/frame"
	"confluence/sha"
)

// The model says the chapter's words once more: Kind by Kind, by numbers written out, without log, and without a reader of the program's.

// maxTerm is 2^62, and maxPlace 2^64 - 2.
const (
	maxTerm  uint64 = 4611686018427387904
	maxPlace uint64 = 18446744073709551614
)

// modelBare is a message of which all that counts for its Kind is zero, but who says it to whom, and its Term; false, if it has no Kind.
func modelBare(m api.Msg) (api.Msg, bool) {
	switch m.Kind {
	case 1, 3:
		m.Place = api.At{}
	case 2, 4:
		m.Ok = false
	case 5:
		m.Place, m.Entries, m.Commit = api.At{}, nil, 0
	case 6:
		m.Ok, m.Index = false, 0
	case 7:
		m.Place, m.Conf, m.Data = api.At{}, api.Conf{}, nil
	default:
		return m, false
	}
	return m, true
}

// modelEntry tells whether an entry may be.
func modelEntry(e api.Entry) bool {
	switch e.Kind {
	case 1:
		return e.Term != 0 && len(e.Data) == 0
	case 2, 3:
		return e.Term != 0 && len(e.Data) < 1025
	}
	return false
}

// modelMay tells whether a message may be.
func modelMay(m api.Msg) bool {
	bare, is := modelBare(m)
	if !is || !same(bare, api.Msg{Kind: m.Kind, From: m.From, To: m.To, Term: m.Term}) {
		return false
	}
	if m.From < 1 || m.From > 5 || m.To < 1 || m.To > 5 || m.From == m.To || m.Term == 0 || m.Term > maxTerm {
		return false
	}
	p := m.Place
	if (p.Index > 0) != (p.Term > 0) || p.Term > m.Term || m.Kind == 1 && p.Term == m.Term || m.Kind == 7 && p.Term == 0 {
		return false
	}
	if len(m.Entries) > 8 || p.Index > maxPlace-uint64(len(m.Entries)) {
		return false
	}
	term := p.Term
	for _, e := range m.Entries {
		if !modelEntry(e) || e.Term < term || e.Term > m.Term {
			return false
		}
		term = e.Term
	}
	for _, member := range m.Conf.Members {
		if member < 1 || member > 255 {
			return false
		}
	}
	return len(m.Conf.Members) < 6 && len(m.Data) < 65537
}

// number is x in so many bytes, the highest one first.
func number(x uint64, width int) []byte {
	row := make([]byte, width)
	for at := width - 1; at >= 0; at-- {
		row[at] = byte(x % 256)
		x /= 256
	}
	return row
}

// modelBytes are the bytes of a message, but for the SHA-256; of one that may not be, whatever it has is laid as far as it goes.
func modelBytes(m api.Msg) []byte {
	row := slices.Concat([]byte{byte(m.Kind), byte(m.From), byte(m.To)}, number(m.Term, 8))
	spot := slices.Concat(number(m.Place.Index, 8), number(m.Place.Term, 8))
	is := byte(0)
	if m.Ok {
		is = 1
	}
	switch m.Kind {
	case 1, 3:
		return slices.Concat(row, spot)
	case 2, 4:
		return append(row, is)
	case 5:
		row = slices.Concat(row, spot, number(uint64(len(m.Entries)), 1))
		for _, e := range m.Entries {
			row = slices.Concat(row, number(e.Term, 8), []byte{byte(e.Kind)}, number(uint64(len(e.Data)), 2), e.Data)
		}
		return slices.Concat(row, number(m.Commit, 8))
	case 6:
		return slices.Concat(row, []byte{is}, number(m.Index, 8))
	case 7:
		row = slices.Concat(row, spot, number(uint64(len(m.Conf.Members)), 1))
		for _, member := range m.Conf.Members {
			row = append(row, byte(member))
		}
		return slices.Concat(row, number(uint64(len(m.Data)), 4), m.Data)
	}
	return row
}

// sealed are bytes, and behind them their SHA-256.
func sealed(row []byte) []byte {
	sum := sha.Sum(row)
	return slices.Concat(row, sum[:])
}

// rest is what is left of bytes, and whether they have come to an end too early.
type rest struct {
	row []byte
	out bool
}

// raw is the next n bytes.
func (r *rest) raw(n uint64) []byte {
	if r.out || n > uint64(len(r.row)) {
		r.out = true
		return nil
	}
	b := slices.Clone(r.row[:n])
	r.row = r.row[n:]
	return b
}

// number is what lies in the next n bytes.
func (r *rest) number(n uint64) uint64 {
	x := uint64(0)
	for _, b := range r.raw(n) {
		x = x*256 + uint64(b)
	}
	return x
}

// modelTake is what bytes (but for the SHA-256) say, and whether they say so much, just that, and an Ok that is one.
func modelTake(row []byte) (api.Msg, bool) {
	r := &rest{row: row}
	m := api.Msg{Kind: int(r.number(1)), From: int(r.number(1)), To: int(r.number(1)), Term: r.number(8)}
	is := uint64(0)
	switch m.Kind {
	case 1, 3:
		m.Place = api.At{Index: r.number(8), Term: r.number(8)}
	case 2, 4:
		is = r.number(1)
	case 5:
		m.Place = api.At{Index: r.number(8), Term: r.number(8)}
		for n := r.number(1); n > 0 && !r.out; n-- {
			e := api.Entry{Term: r.number(8), Kind: int(r.number(1))}
			e.Data = r.raw(r.number(2))
			m.Entries = append(m.Entries, e)
		}
		m.Commit = r.number(8)
	case 6:
		is = r.number(1)
		m.Index = r.number(8)
	case 7:
		m.Place = api.At{Index: r.number(8), Term: r.number(8)}
		for n := r.number(1); n > 0; n-- {
			m.Conf.Members = append(m.Conf.Members, int(r.number(1)))
		}
		m.Data = r.raw(r.number(4))
	}
	m.Ok = is == 1
	return m, !r.out && len(r.row) == 0 && is < 2
}

// modelDecode is what Decode is to answer.
func modelDecode(b []byte) (api.Msg, api.Errno) {
	if len(b) <= 31 {
		return api.Msg{}, api.ErrShort
	}
	row := b[:len(b)-32]
	m, is := modelTake(row)
	if !is || !modelMay(m) || !bytes.Equal(sealed(row), b) {
		return api.Msg{}, api.ErrFrame
	}
	return m, api.OK
}

// plain is a message with lists of its own, none of them nil.
func plain(m api.Msg) api.Msg {
	m.Entries = append([]api.Entry{}, m.Entries...)
	for i, e := range m.Entries {
		m.Entries[i].Data = append([]byte{}, e.Data...)
	}
	m.Conf.Members = append([]int{}, m.Conf.Members...)
	m.Data = append([]byte{}, m.Data...)
	return m
}

// same tells whether two messages are the same, whatever the program says of it.
func same(a, b api.Msg) bool {
	return reflect.DeepEqual(plain(a), plain(b))
}

// pick is one of a list.
func pick[P any](r *rand.Rand, list ...P) P {
	return list[r.Intn(len(list))]
}

// drawnData are so many bytes of chance.
func drawnData(r *rand.Rand, n int) []byte {
	b := make([]byte, n)
	r.Read(b)
	return b
}

// drawnEntries are entries of chance that may stand behind a Term, and go no further than top.
func drawnEntries(r *rand.Rand, term, top uint64) []api.Entry {
	var list []api.Entry
	term = max(term, 1)
	for range r.Intn(9) {
		if r.Intn(3) == 0 {
			term = min(top, term+pick(r, 1, uint64(r.Intn(3)), r.Uint64()>>2))
		}
		e := api.Entry{Term: term, Kind: 1 + r.Intn(3)}
		if e.Kind > 1 {
			e.Data = drawnData(r, pick(r, 0, 1, r.Intn(20)))
		}
		list = append(list, e)
	}
	return list
}

// drawn is a message of chance: half of them may be, but for what luck brings.
func drawn(r *rand.Rand) api.Msg {
	m := api.Msg{Kind: 1 + r.Intn(7), From: 1 + r.Intn(5), To: 1 + r.Intn(4), Term: pick(r, 1, 2, 1+uint64(r.Intn(9)), r.Uint64()>>2, maxTerm)}
	if m.To >= m.From {
		m.To++
	}
	if m.Kind%2 == 1 && (m.Kind == 7 || r.Intn(3) > 0) {
		m.Place = api.At{Index: pick(r, 1, 1+uint64(r.Intn(9)), 1+r.Uint64()>>1, maxPlace-8), Term: 1 + r.Uint64()%m.Term}
		if m.Kind == 1 && m.Place.Term == m.Term {
			m.Place = api.At{}
		}
	}
	switch m.Kind {
	case 2, 4, 6:
		m.Ok = r.Intn(2) == 0
	case 5:
		m.Entries = drawnEntries(r, m.Place.Term, m.Term)
		m.Commit = pick(r, 0, uint64(r.Intn(9)), r.Uint64())
	case 7:
		for range r.Intn(6) {
			m.Conf.Members = append(m.Conf.Members, 1+pick(r, r.Intn(5), r.Intn(255)))
		}
		m.Data = drawnData(r, pick(r, 0, 1, r.Intn(100)))
	}
	if m.Kind == 6 {
		m.Index = pick(r, 0, uint64(r.Intn(9)), r.Uint64())
	}
	if r.Intn(2) == 0 {
		spoil(r, &m)
	}
	return m
}

// spoil puts something into a field of a message, which may be right there.
func spoil(r *rand.Rand, m *api.Msg) {
	switch r.Intn(12) {
	case 0:
		m.Kind = r.Intn(10) - 1
	case 1:
		m.From = r.Intn(8) - 1
	case 2:
		m.To = r.Intn(8) - 1
	case 3:
		m.Term = pick(r, 0, 1, m.Place.Term, maxTerm, maxTerm+1, r.Uint64())
	case 4:
		m.Place.Index = pick(r, 0, 1, maxPlace-9+uint64(r.Intn(11)), r.Uint64())
	case 5:
		m.Place.Term = pick(r, 0, 1, m.Term-1, m.Term, m.Term+1)
	case 6:
		m.Entries = append(m.Entries, api.Entry{Term: pick(r, 0, 1, m.Place.Term, m.Term, m.Term+1), Kind: r.Intn(5), Data: drawnData(r, r.Intn(2))})
	case 7:
		m.Commit = pick(r, 0, 1, maxPlace+1)
	case 8:
		m.Ok = !m.Ok
	case 9:
		m.Index = pick(r, 0, 1, maxPlace+1)
	case 10:
		m.Conf.Members = append(m.Conf.Members, pick(r, -1, 0, 1, 255, 256))
	case 11:
		m.Data = drawnData(r, pick(r, 0, 1, 9))
	}
}

// bent are bytes of which some are other ones, or gone, or more.
func bent(r *rand.Rand, b []byte) []byte {
	b = slices.Clone(b)
	for range 1 + r.Intn(3) {
		at := r.Intn(len(b) + 1)
		if r.Intn(2) == 0 {
			at = min(at, 28) // the beginning tells the most
		}
		switch {
		case r.Intn(4) == 0:
			b = slices.Insert(b, at, byte(r.Intn(256)))
		case at == len(b):
			b = b[:len(b)/2]
		case r.Intn(3) == 0:
			b = slices.Delete(b, at, at+1)
		default:
			b[at] = pick(r, byte(r.Intn(9)), byte(r.Intn(256)))
		}
	}
	return b
}

// P13.1 to P13.4: messages of chance, and bytes that have gone wrong, with a right SHA-256 and without; of each kind enough are met.
func TestChanceOnesAreTheModels(t *testing.T) {
	r := rand.New(rand.NewSource(13))
	met := map[string]int{}
	last := drawn(r)
	for i := range 20000 {
		m := drawn(r)
		what := "message of chance, number " + strconv.Itoa(i)
		asModel(t, what, m)
		if frame.Same(m, last) != same(m, last) {
			t.Fatalf("%s: Same of %v and %v: not %v", what, m, last, same(m, last))
		}
		last = m
		b := sealed(bent(r, modelBytes(m)))
		decodes(t, what+", bent", b)
		decodes(t, what+", and its SHA-256 bent", bent(r, sealed(modelBytes(m))))
		_, err := modelDecode(b)
		met["decoded "+strconv.Itoa(int(err))]++
		met["kind "+strconv.Itoa(m.Kind)+" "+strconv.FormatBool(modelMay(m))]++
	}
	for _, err := range []string{"0", "231"} {
		if n := met["decoded "+err]; n < 200 {
			t.Errorf("decoded %s: met %d times only", err, n)
		}
	}
	for kind := 1; kind <= 7; kind++ {
		for _, may := range []string{" true", " false"} {
			if n := met["kind "+strconv.Itoa(kind)+may]; n < 200 {
				t.Errorf("kind %d%s: met %d times only", kind, may, n)
			}
		}
	}
}

// together hands on all messages that are put together of these: some may be, and most may not.
func together(hand func(m api.Msg)) {
	lists := [][]api.Entry{
		nil,
		{{Term: 1, Kind: 1}},
		{{Term: 1, Kind: 2, Data: []byte{0}}, {Term: 2, Kind: 3}},
		{{Term: 2, Kind: 1}},
	}
	spots := []api.At{{}, {Index: 1, Term: 1}, {Index: 1}, {Term: 1}, {Index: 9, Term: 2}, {Index: maxPlace, Term: 1}, {Index: maxPlace + 1, Term: 1}}
	for kind := range 9 {
		for _, who := range [][2]int{{1, 2}, {5, 1}, {1, 1}} {
			for _, term := range []uint64{0, 1, 2, maxTerm, maxTerm + 1} {
				for _, spot := range spots {
					for _, list := range lists {
						for bits := range 32 {
							m := api.Msg{Kind: kind, From: who[0], To: who[1], Term: term, Place: spot, Entries: list, Ok: bits&1 > 0}
							m.Commit, m.Index = uint64(bits&2/2), uint64(bits&4/4)
							m.Conf.Members = slices.Repeat([]int{3}, bits&8/8)
							m.Data = make([]byte, bits&16/16)
							hand(m)
						}
					}
				}
			}
		}
	}
}

// P13.1, P13.2, P13.4: all messages that are put together of these; those that are unlike have unlike bytes.
func TestAllTogetherAreTheModels(t *testing.T) {
	told := map[string]api.Msg{}
	together(func(m api.Msg) {
		b, err := frame.Encode(m)
		if err != frame.Check(m) || err == api.OK != modelMay(m) {
			t.Fatalf("%v: Check %d, Encode %d", m, frame.Check(m), err)
		}
		if err != api.OK {
			if len(b) > 0 {
				t.Fatalf("%v: bytes beside an error", m)
			}
			return
		}
		if other, is := told[string(b)]; is && !same(other, m) {
			t.Fatalf("%v and %v have the same bytes", other, m)
		}
		told[string(b)] = m
		if got, err := frame.Decode(b); err != api.OK || !same(got, m) {
			t.Fatalf("Decode of Encode of %v: %v, error %d", m, got, err)
		}
	})
	// Reckoned by hand: of MsgAsk, MsgVote, both answers to them, MsgAppend, MsgAppended, MsgSnap.
	if n := 16 + 22 + 2*12 + 108 + 24 + 64; len(told) != n {
		t.Errorf("%d messages have bytes, not %d", len(told), n)
	}
}

// P13.3, P13.4: bytes of messages with a right SHA-256, of which each byte in turn is each other one, or is gone, or comes twice.
func TestBytesOneByOne(t *testing.T) {
	for _, m := range someMessages() {
		row := modelBytes(m)
		for at := range row {
			values := 256
			if at > 60 {
				values = 10 // of long ones
			}
			other := slices.Clone(row)
			for x := range values {
				other[at] = byte(x)
				decodes(t, "a byte is another one", sealed(other))
			}
			other[at] = row[at] ^ 128
			decodes(t, "a byte is another one", sealed(other))
			decodes(t, "a byte is gone", sealed(slices.Delete(slices.Clone(row), at, at+1)))
			decodes(t, "a byte comes twice", sealed(slices.Insert(slices.Clone(row), at, row[at])))
			decodes(t, "a nought comes between", sealed(slices.Insert(slices.Clone(row), at, 0)))
		}
	}
}

// P13.3: rows of one byte, over and over, of each length up to beyond what a message without Data has; with a right SHA-256, and without.
func TestRowsOfOneByte(t *testing.T) {
	for _, x := range []byte{0, 1, 2, 3, 4, 5, 6, 7, 8, 127, 128, 255} {
		for n := range 300 {
			row := bytes.Repeat([]byte{x}, n)
			decodes(t, "one byte, over and over", row)
			decodes(t, "one byte, over and over, sealed", sealed(row))
		}
	}
}

// The model's numbers are those that they are said to be.
func TestModelsNumbers(t *testing.T) {
	if maxTerm != uint64(math.Pow(2, 62)) || maxPlace != math.MaxUint64-1 {
		t.Error("a number of the model is another one")
	}
}
