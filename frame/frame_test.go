package frame_test

import (
	"bytes"
	"encoding/hex"
	"fmt"
	"math"
	"slices"
	"strconv"
	"strings"
	"testing"

	"confluence/api"
	"confluence/frame"
)

// at is a place.
func at(index, term uint64) api.At {
	return api.At{Index: index, Term: term}
}

// none are entries of nothing, of those Terms.
func none(terms ...uint64) []api.Entry {
	var list []api.Entry
	for _, term := range terms {
		list = append(list, api.Entry{Term: term, Kind: api.EntNone})
	}
	return list
}

// level are n entries of one Term.
func level(n int, term uint64) []api.Entry {
	return none(slices.Repeat([]uint64{term}, n)...)
}

// ofEach are messages of each Kind, with no more than they need, of Term 3: the first one has Kind 1.
func ofEach() []api.Msg {
	var list []api.Msg
	for kind := api.MsgAsk; kind <= api.MsgSnap; kind++ {
		m := api.Msg{Kind: kind, From: 1, To: 2, Term: 3}
		if kind == api.MsgSnap {
			m.Place = at(1, 1)
		}
		list = append(list, m)
	}
	return list
}

// of is a message of that Kind, with no more than it needs.
func of(kind int) api.Msg {
	return ofEach()[kind-1]
}

// with is a message to which something was done; its lists are its own.
func with(m api.Msg, do func(m *api.Msg)) api.Msg {
	m = plain(m)
	do(&m)
	return m
}

// someMessages are messages that may be, of not too many bytes.
func someMessages() []api.Msg {
	return append(ofEach(),
		api.Msg{Kind: api.MsgAsk, From: 2, To: 5, Term: 0x0102030405060708, Place: at(0x1112131415161718, 0x0002030405060708)},
		api.Msg{Kind: api.MsgAsked, From: 3, To: 1, Term: 1 << 40, Ok: true},
		api.Msg{Kind: api.MsgVote, From: 4, To: 3, Term: maxTerm, Place: at(maxPlace, maxTerm)},
		api.Msg{Kind: api.MsgVoted, From: 5, To: 4, Term: 1, Ok: true},
		api.Msg{Kind: api.MsgAppend, From: 3, To: 1, Term: 0x300, Place: at(0x102, 1), Commit: math.MaxUint64, Entries: []api.Entry{
			{Term: 1, Kind: api.EntNone}, {Term: 0x200, Kind: api.EntCommand, Data: []byte{1, 0, 3}}, {Term: 0x300, Kind: api.EntConf, Data: []byte{1, 5}}}},
		api.Msg{Kind: api.MsgAppend, From: 1, To: 3, Term: 9, Entries: level(api.MaxSend, 9)},
		api.Msg{Kind: api.MsgAppended, From: 2, To: 3, Term: 9, Ok: true, Index: 0x8877665544332211},
		api.Msg{Kind: api.MsgAppended, From: 2, To: 3, Term: 9, Index: 1},
		api.Msg{Kind: api.MsgSnap, From: 3, To: 2, Term: 1 << 16, Place: at(7, 1<<16-1), Conf: api.Conf{Members: []int{255, 1, 5}}, Data: []byte{10, 255, 0, 13}},
		api.Msg{Kind: api.MsgSnap, From: 3, To: 2, Term: 4, Place: at(1, 4), Data: make([]byte, 300)},
	)
}

// room is what stands behind the end of bytes that are handed in.
var room = bytes.Repeat([]byte{0xee}, 40)

// behind is what stands behind the end of entries that are handed in.
func behind() []api.Entry {
	return []api.Entry{{Term: 77, Kind: 7, Data: []byte{7}}, {Term: 78, Kind: 8, Data: []byte{8}}}
}

// handed is a message as it is handed in: with room behind the end of each list.
func handed(m api.Msg) api.Msg {
	m.Entries = slices.Concat(m.Entries, behind())[:len(m.Entries)]
	for i, e := range m.Entries {
		m.Entries[i].Data = slices.Concat(e.Data, room)[:len(e.Data)]
	}
	m.Conf.Members = slices.Concat(m.Conf.Members, []int{77, 78})[:len(m.Conf.Members)]
	m.Data = slices.Concat(m.Data, room)[:len(m.Data)]
	return m
}

// opened is a message that is handed in, with what stands behind its lists.
func opened(m api.Msg) api.Msg {
	m.Entries = slices.Clone(m.Entries[:len(m.Entries)+2])
	for i, e := range m.Entries[:len(m.Entries)-2] {
		m.Entries[i].Data = e.Data[:len(e.Data)+len(room)]
	}
	m.Conf.Members = m.Conf.Members[:len(m.Conf.Members)+2]
	m.Data = m.Data[:len(m.Data)+len(room)]
	return m
}

// shown is a message, or bytes, as a text that is not too long to read.
func shown(x any) string {
	text := fmt.Sprintf("%v", x)
	return text[:min(len(text), 600)]
}

// untouched fails the test if a message that is handed in, or the room behind its lists, is not as it was.
func untouched(t *testing.T, what string, in, was api.Msg) {
	t.Helper()
	if !same(opened(in), opened(handed(was))) {
		t.Errorf("%s: what was handed in, or the room behind it, has changed: %s, and was %s", what, shown(in), shown(was))
	}
}

// overwrite fills bytes, and the room behind their end.
func overwrite(b []byte) {
	whole := b[:cap(b)]
	for i := range whole {
		whole[i] = 0xaa
	}
}

// wipe writes over all lists of a message, and over the room behind their ends.
func wipe(m api.Msg) {
	overwrite(m.Data)
	members := m.Conf.Members[:cap(m.Conf.Members)]
	for i := range members {
		members[i] = 99
	}
	for _, e := range m.Entries {
		overwrite(e.Data)
	}
	entries := m.Entries[:cap(m.Entries)]
	for i := range entries {
		entries[i] = api.Entry{Term: 99, Kind: 9}
	}
}

// is fails the test if an error is another one.
func is(t *testing.T, what string, got, want api.Errno) {
	t.Helper()
	if got != want && !t.Failed() { // one fault is enough to read
		t.Errorf("%s: error %d, not %d", what, got, want)
	}
}

// asModel asks Check, Encode and Same of a message, and holds the answers against the model; what is handed in stays, and is not kept.
func asModel(t *testing.T, what string, m api.Msg) {
	t.Helper()
	if t.Failed() {
		return // one fault is enough to read
	}
	var want []byte
	err := api.ErrMsg
	if modelMay(m) {
		want, err = sealed(modelBytes(m)), api.OK
	}
	// The second time what was answered first has been written over.
	for range 2 {
		in := handed(m)
		is(t, what+": Check", frame.Check(in), err)
		b, e := frame.Encode(in)
		is(t, what+": Encode", e, err)
		if !frame.Same(in, m) || !frame.Same(m, in) {
			t.Errorf("%s: not the same as itself", what)
		}
		untouched(t, what, in, m)
		wipe(in)
		if !bytes.Equal(b, want) {
			t.Errorf("%s: Encode: %s, not %s", what, shown(b), shown(want))
		}
		in = handed(m)
		b, _ = frame.Encode(in)
		overwrite(b)
		untouched(t, what+": the answer was written over", in, m)
	}
	if err == api.OK {
		decodes(t, what, want)
	}
}

// may and mayNot fail the test if a message may not be, or may: in all calls, and by the model too.
func may(t *testing.T, what string, m api.Msg) {
	t.Helper()
	is(t, what, frame.Check(m), api.OK)
	asModel(t, what, m)
}

func mayNot(t *testing.T, what string, m api.Msg) {
	t.Helper()
	is(t, what, frame.Check(m), api.ErrMsg)
	asModel(t, what, m)
	row := modelBytes(m)
	if got, is := modelTake(row); is && same(got, m) {
		says(t, what, sealed(row), api.ErrFrame) // bytes that say just that
	}
}

// check fails the test if a message is not so.
func check(t *testing.T, what string, m api.Msg, so bool) {
	t.Helper()
	if so {
		may(t, what, m)
	} else {
		mayNot(t, what, m)
	}
}

// decodes fails the test if Decode answers something else than the model, changes the bytes, or keeps them; and if Encode does not lead back.
func decodes(t *testing.T, what string, b []byte) {
	t.Helper()
	if t.Failed() {
		return // one fault is enough to read
	}
	want, err := modelDecode(b)
	in := slices.Concat(b, room)[:len(b)]
	got, e := frame.Decode(in)
	if e != err || !same(got, want) {
		t.Errorf("%s: Decode of %s: %s, error %d, not %s, %d", what, shown(b), shown(got), e, shown(want), err)
		return
	}
	whole := in[:len(b)+len(room)]
	if !bytes.Equal(whole, slices.Concat(b, room)) {
		t.Errorf("%s: Decode has changed the bytes, or the room behind them", what)
	}
	clear(whole)
	if !same(got, want) {
		t.Errorf("%s: Decode of %s has kept the bytes", what, shown(b))
	}
	if err != api.OK {
		return
	}
	again, e := frame.Encode(got)
	if e != api.OK || !bytes.Equal(again, b) {
		t.Errorf("%s: Encode of Decode: %s, error %d, not %s", what, shown(again), e, shown(b))
	}
	apart(t, what, got, want)
	if !bytes.Equal(whole, make([]byte, len(whole))) {
		t.Errorf("%s: Decode has told of the bytes themselves", what)
	}
	if other, _ := frame.Decode(b); !same(other, want) {
		t.Errorf("%s: Decode of %s again: %s, not %s", what, shown(b), shown(other), shown(want))
	}
}

// apart writes over a message that was answered, list by list, and fails the test if another one of its lists changes by that.
func apart(t *testing.T, what string, got, was api.Msg) {
	t.Helper()
	was = plain(was)
	for i, e := range got.Entries {
		overwrite(e.Data)
		was.Entries[i].Data = bytes.Repeat([]byte{0xaa}, len(e.Data))
		if !same(got, was) {
			t.Errorf("%s: the Data of an entry is another list, too", what)
		}
	}
	overwrite(got.Data)
	was.Data = bytes.Repeat([]byte{0xaa}, len(was.Data))
	if !same(got, was) {
		t.Errorf("%s: Data is another list, too", what)
	}
	wipe(got)
}

// says fails the test if Decode does not answer just that error, by the model too.
func says(t *testing.T, what string, b []byte, want api.Errno) {
	t.Helper()
	_, err := frame.Decode(b)
	is(t, what+": Decode", err, want)
	decodes(t, what, b)
}

// hexed are the bytes that a text of hexadecimal digits says.
func hexed(t *testing.T, text string) []byte {
	t.Helper()
	b, err := hex.DecodeString(strings.ReplaceAll(text, " ", ""))
	if err != nil {
		t.Fatal(err)
	}
	return b
}

// P13.1 to P13.3: the chapter's examples.
func TestExamples(t *testing.T) {
	voted := api.Msg{Kind: api.MsgVoted, From: 1, To: 2, Term: 3, Ok: true}
	app := api.Msg{Kind: api.MsgAppend, From: 1, To: 2, Term: 3, Commit: 5}
	for _, x := range []struct {
		m   api.Msg
		row []byte
	}{
		{voted, []byte{4, 1, 2, 0, 0, 0, 0, 0, 0, 0, 3, 1}},
		{app, slices.Concat([]byte{5, 1, 2, 0, 0, 0, 0, 0, 0, 0, 3}, make([]byte, 16), []byte{0}, []byte{0, 0, 0, 0, 0, 0, 0, 5})},
	} {
		b, err := frame.Encode(x.m)
		is(t, "an example", err, api.OK)
		if len(b) != len(x.row)+32 || !bytes.HasPrefix(b, x.row) {
			t.Errorf("%v: % x, not % x and 32 bytes", x.m, b, x.row)
		}
		may(t, "an example", x.m)
	}
	mayNot(t, "MsgVote to itself", api.Msg{Kind: api.MsgVote, From: 1, To: 1, Term: 1})
	says(t, "31 bytes", make([]byte, 31), api.ErrShort)
	says(t, "32 noughts", make([]byte, 32), api.ErrFrame)
}

// P13.2, P13.3: bytes of each Kind, written out; the digests were reckoned by another tool.
func TestBytesWrittenOut(t *testing.T) {
	for _, x := range []struct {
		m        api.Msg
		row, sum string
	}{
		{api.Msg{Kind: 1, From: 2, To: 5, Term: 0x0102030405060708, Place: at(0x1112131415161718, 0x0002030405060708)},
			"01 02 05 0102030405060708 1112131415161718 0002030405060708",
			"6d53fdbc699e5fc6a107c1b68a4e1f460e2a985a703a54438fed2f9b2af83d97"},
		{api.Msg{Kind: 2, From: 5, To: 1, Term: 1},
			"02 05 01 0000000000000001 00",
			"27b79a5dae0e6edfe3632033deb3836ba50862028b3a9ae7f132e3d22db91449"},
		{api.Msg{Kind: 3, From: 4, To: 3, Term: maxTerm, Place: at(maxPlace, maxTerm)},
			"03 04 03 4000000000000000 fffffffffffffffe 4000000000000000",
			"d47d713bf106c188f5016a1571e2ea91eba9d791ed13fc3492abb9bdef7f29e2"},
		{api.Msg{Kind: 4, From: 1, To: 2, Term: 3, Ok: true},
			"04 01 02 0000000000000003 01",
			"270b09b78b0db825aa9565e122d83c1c72da688de0de2f8d3132bcb6f62370fd"},
		{api.Msg{Kind: 5, From: 1, To: 2, Term: 3, Commit: 5},
			"05 01 02 0000000000000003 0000000000000000 0000000000000000 00 0000000000000005",
			"280972d0152123726cf65b9153bcc7262205cdbf910c3624ad321c5af2ab834a"},
		{api.Msg{Kind: 5, From: 3, To: 1, Term: 0x300, Place: at(0x102, 1), Commit: 0xfedcba9876543210, Entries: []api.Entry{
			{Term: 1, Kind: 1}, {Term: 0x200, Kind: 2, Data: []byte{1, 0, 3}}, {Term: 0x300, Kind: 3, Data: []byte{1, 5}}}},
			"05 03 01 0000000000000300 0000000000000102 0000000000000001 03" +
				"0000000000000001 01 0000  0000000000000200 02 0003 010003  0000000000000300 03 0002 0105  fedcba9876543210",
			"2d564e52c4bfdc65efd297afaa4b9aac62db2ece2afffce9565428169bf2de73"},
		{api.Msg{Kind: 6, From: 2, To: 3, Term: 9, Ok: true, Index: 0x8877665544332211},
			"06 02 03 0000000000000009 01 8877665544332211",
			"7692851bfedf78cce8d6608e677a69c76e60ff53ad203a363ae162bec7b7f8b5"},
		{api.Msg{Kind: 6, From: 2, To: 3, Term: 9},
			"06 02 03 0000000000000009 00 0000000000000000",
			"88ac0150c0e0ad6523fbdb33eb7d850a73ac805243d58482f644313002b0d85c"},
		{api.Msg{Kind: 7, From: 3, To: 2, Term: 0x10000, Place: at(7, 0xffff), Conf: api.Conf{Members: []int{255, 1, 5}}, Data: []byte{10, 255, 208, 13}},
			"07 03 02 0000000000010000 0000000000000007 000000000000ffff 03 ff 01 05 00000004 0affd00d",
			"bbdcbe2fc9c24c4925cb4db714b9bb64b6402652ebfcdbb19cd5b0feea6a68b0"},
		{api.Msg{Kind: 7, From: 3, To: 2, Term: 1, Place: at(1, 1)},
			"07 03 02 0000000000000001 0000000000000001 0000000000000001 00 00000000",
			"d852f336c2005b051e212d23fd1005dbf13aeda4efe4b0947f1fc07dc80767d7"},
	} {
		row := hexed(t, x.row+x.sum)
		b, err := frame.Encode(x.m)
		if err != api.OK || !bytes.Equal(b, row) {
			t.Errorf("%v: Encode: % x, error %d, not % x", x.m, b, err, row)
		}
		m, err := frame.Decode(row)
		if err != api.OK || !same(m, x.m) {
			t.Errorf("%v: Decode: %v, error %d", x.m, m, err)
		}
		asModel(t, "bytes written out", x.m)
	}
}

// strange are numbers that are none of a few small ones, though some have such a lowest byte.
var strange = []int{math.MinInt, -1 << 32, -256, -255, -1, 0, 8, 9, 255, 256, 257, 258, 259, 261, 1<<16 + 1, 1<<32 + 1, math.MaxInt}

// P13.1 to P13.3: Kinds: one below the first and one above the last; those too of which the lowest byte is a Kind.
func TestKinds(t *testing.T) {
	for _, m := range ofEach() {
		may(t, "Kind "+strconv.Itoa(m.Kind), m)
		for _, kind := range strange {
			mayNot(t, "Kind "+strconv.Itoa(kind), with(m, func(m *api.Msg) { m.Kind = kind }))
			mayNot(t, "nothing but a Kind, and who says it, "+strconv.Itoa(kind), api.Msg{Kind: kind, From: 1, To: 2, Term: 3})
		}
		row := modelBytes(m)
		for kind := range 256 {
			other := slices.Clone(row)
			other[0] = byte(kind)
			want := api.ErrFrame
			// Those of a Kind and of another one lie in as many bytes: MsgAsk and MsgVote, both answers to them.
			if kind == m.Kind || m.Kind <= 4 && kind >= 1 && kind <= 4 && kind%2 == m.Kind%2 {
				want = api.OK
			}
			says(t, "Kind "+strconv.Itoa(kind)+" in the bytes of "+strconv.Itoa(m.Kind), sealed(other), want)
		}
	}
}

// wellFilled are messages of each Kind with something in each field that counts for it.
func wellFilled() []api.Msg {
	list := ofEach()
	for i := range list {
		m := &list[i]
		switch m.Kind {
		case api.MsgAsk, api.MsgVote:
			m.Place = at(4, 2)
		case api.MsgAsked, api.MsgVoted:
			m.Ok = true
		case api.MsgAppend:
			m.Place, m.Entries, m.Commit = at(4, 2), none(2, 3), 5
		case api.MsgAppended:
			m.Ok, m.Index = true, 6
		case api.MsgSnap:
			m.Place, m.Conf.Members, m.Data = at(4, 2), []int{1, 2}, []byte{7}
		}
	}
	return list
}

// P13.1, P13.2: each field that does not count for a Kind, not zero; those that count may be so, or zero.
func TestFieldsThatDoNotCount(t *testing.T) {
	for _, x := range []struct {
		what  string
		kinds []int
		do    func(m *api.Msg)
	}{
		{"a Place", []int{1, 3, 5, 7}, func(m *api.Msg) { m.Place = at(1, 1) }},
		{"a far Place", []int{1, 3, 5, 7}, func(m *api.Msg) { m.Place = at(1<<40, 2) }},
		{"an entry", []int{5}, func(m *api.Msg) { m.Entries = none(3) }},
		{"a command", []int{5}, func(m *api.Msg) { m.Entries = []api.Entry{{Term: 2, Kind: api.EntCommand, Data: []byte{1}}} }},
		{"a zero entry", nil, func(m *api.Msg) { m.Entries = make([]api.Entry, 1) }},
		{"Commit 1", []int{5}, func(m *api.Msg) { m.Commit = 1 }},
		{"Commit 256", []int{5}, func(m *api.Msg) { m.Commit = 256 }},
		{"Commit 2^32", []int{5}, func(m *api.Msg) { m.Commit = 1 << 32 }},
		{"Commit 2^63", []int{5}, func(m *api.Msg) { m.Commit = 1 << 63 }},
		{"the greatest Commit", []int{5}, func(m *api.Msg) { m.Commit = math.MaxUint64 }},
		{"Ok", []int{2, 4, 6}, func(m *api.Msg) { m.Ok = true }},
		{"Index 1", []int{6}, func(m *api.Msg) { m.Index = 1 }},
		{"Index 256", []int{6}, func(m *api.Msg) { m.Index = 256 }},
		{"Index 2^32", []int{6}, func(m *api.Msg) { m.Index = 1 << 32 }},
		{"Index 2^63", []int{6}, func(m *api.Msg) { m.Index = 1 << 63 }},
		{"the greatest Index", []int{6}, func(m *api.Msg) { m.Index = math.MaxUint64 }},
		{"a member", []int{7}, func(m *api.Msg) { m.Conf.Members = []int{1} }},
		{"two members", []int{7}, func(m *api.Msg) { m.Conf.Members = []int{1, 2} }},
		{"a zero member", nil, func(m *api.Msg) { m.Conf.Members = []int{0} }},
		{"Data of a nought", []int{7}, func(m *api.Msg) { m.Data = []byte{0} }},
		{"Data", []int{7}, func(m *api.Msg) { m.Data = []byte{1, 2, 3} }},
	} {
		for _, m := range append(ofEach(), wellFilled()...) {
			m = with(m, func(m *api.Msg) {
				m.Entries = nil // so that their Terms do not fall
				x.do(m)
			})
			check(t, x.what+" of Kind "+strconv.Itoa(m.Kind), m, slices.Contains(x.kinds, m.Kind))
		}
	}
	for _, m := range append(ofEach(), wellFilled()...) {
		may(t, "fields that count", m)
		may(t, "empty lists", plain(m))
		mayNot(t, "From another Kind", with(m, func(m *api.Msg) { m.Commit, m.Index = 1, 1 }))
	}
}

// P13.1 to P13.3: From and To: 0, 1, MaxMembers and one more, alike and unlike; those too of which the lowest byte is a server.
func TestFromAndTo(t *testing.T) {
	servers := append([]int{1, 2, 3, 4, 5, 6, 7}, strange...)
	for _, m := range append(ofEach(), wellFilled()...) {
		for _, from := range servers {
			for _, to := range servers {
				so := from >= 1 && from <= 5 && to >= 1 && to <= 5 && from != to
				what := "Kind " + strconv.Itoa(m.Kind) + " from " + strconv.Itoa(from) + " to " + strconv.Itoa(to)
				check(t, what, with(m, func(m *api.Msg) { m.From, m.To = from, to }), so)
			}
		}
	}
}

// P13.1 to P13.3: Terms: 0, 1, MaxTerm and one more, of each Kind.
func TestTerms(t *testing.T) {
	for _, m := range ofEach() {
		for _, term := range []uint64{0, 1, 2, 255, 256, 1 << 32, 1<<62 - 1, 1 << 62, 1<<62 + 1, 1<<62 + 2, 1 << 63, 1<<63 + 1, math.MaxUint64} {
			for _, ahead := range []api.At{{}, at(1, 1)} {
				m := with(m, func(m *api.Msg) { m.Term = term })
				if m.Kind%2 == 1 {
					m.Place = ahead
				}
				so := term >= 1 && term <= 1<<62 && (m.Kind != api.MsgAsk || m.Place.Term < term) && (m.Kind != api.MsgSnap || m.Place.Term > 0)
				check(t, "Kind "+strconv.Itoa(m.Kind)+", Term "+strconv.FormatUint(term, 10), m, so)
			}
		}
	}
}

// P13.1 to P13.3: a Place that is zero, one with one number zero alone, one with the message's Term, one below and one above, of each Kind that has one.
func TestPlaces(t *testing.T) {
	for _, kind := range []int{api.MsgAsk, api.MsgVote, api.MsgAppend, api.MsgSnap} {
		for _, term := range []uint64{1, 2, 3, 256, 1 << 32, maxTerm} {
			m := with(of(kind), func(m *api.Msg) { m.Term = term })
			put := func(what string, place api.At, so bool) {
				t.Helper()
				what = "Kind " + strconv.Itoa(kind) + ", Term " + strconv.FormatUint(term, 10) + ": a Place that " + what
				check(t, what, with(m, func(m *api.Msg) { m.Place = place }), so)
			}
			put("is zero", at(0, 0), kind != api.MsgSnap)
			for _, index := range []uint64{1, 2, 1 << 32, maxPlace} {
				put("has no Term", at(index, 0), false)
				put("has a Term one below", at(index, term-1), term > 1)
				put("has the message's Term", at(index, term), kind != api.MsgAsk)
				put("has a Term one above", at(index, term+1), false)
				put("has a Term far above", at(index, math.MaxUint64), false)
				put("has Term 1", at(index, 1), kind != api.MsgAsk || term > 1)
			}
			for _, index := range []uint64{1, term - 1, term, term + 1} {
				put("has no Index", at(0, index), index == 0 && kind != api.MsgSnap)
			}
		}
	}
}

// P13.1 to P13.3: no Entries, one, MaxSend and one more; those too of which the lowest byte of their number is small.
func TestCountsOfEntries(t *testing.T) {
	for n := range 300 {
		so := n <= 8
		what := strconv.Itoa(n) + " entries"
		for _, place := range []api.At{{}, at(4, 2)} {
			check(t, what, with(of(api.MsgAppend), func(m *api.Msg) { m.Place, m.Entries = place, level(n, 3) }), so)
		}
		for _, kind := range []int{1, 2, 3, 4, 6, 7} {
			check(t, what+" of Kind "+strconv.Itoa(kind), with(of(kind), func(m *api.Msg) { m.Entries = level(n, 3) }), n == 0)
		}
	}
	data := bytes.Repeat([]byte("data"), 256)
	full := slices.Repeat([]api.Entry{{Term: 3, Kind: api.EntCommand, Data: data}}, 9)
	may(t, "8 entries with all the Data that they may have", with(of(api.MsgAppend), func(m *api.Msg) { m.Entries = full[:8] }))
	mayNot(t, "9 entries with all the Data that they may have", with(of(api.MsgAppend), func(m *api.Msg) { m.Entries = full }))
}

// P13.1 to P13.3: entries of each Kind, and of none, with Data of no byte, of MaxData bytes and of one more, at each place.
func TestKindsAndDataOfEntries(t *testing.T) {
	for _, kind := range append([]int{1, 2, 3, 4, 5}, strange...) {
		for _, n := range []int{0, 1, 2, 255, 256, 1023, 1024, 1025, 65535, 65536, 65537} {
			for place := range 3 {
				m := with(of(api.MsgAppend), func(m *api.Msg) {
					m.Entries = level(3, 3)
					m.Entries[place].Kind = kind
					m.Entries[place].Data = []byte(strings.Repeat("x", n))
				})
				so := kind == 1 && n == 0 || (kind == 2 || kind == 3) && n <= 1024
				check(t, "an entry of Kind "+strconv.Itoa(kind)+" with "+strconv.Itoa(n)+" bytes at "+strconv.Itoa(place), m, so)
			}
		}
	}
}

// P13.1 to P13.3: Terms of entries that rise, are level, fall, are below Place's and above the message's, and 0.
func TestTermsOfEntries(t *testing.T) {
	for _, x := range []struct {
		what  string
		place api.At
		terms []uint64
		so    bool
	}{
		{"that rise", at(4, 2), []uint64{3, 4, 5}, true},
		{"that are level", at(4, 2), []uint64{2, 2, 2}, true},
		{"that leap", at(4, 2), []uint64{2, 5}, true},
		{"that fall at the end", at(4, 2), []uint64{3, 4, 3}, false},
		{"that fall at first", at(4, 2), []uint64{4, 3, 5}, false},
		{"that fall below Place's", at(4, 2), []uint64{3, 1}, false},
		{"of Place's", at(4, 2), []uint64{2}, true},
		{"one below Place's", at(4, 2), []uint64{1}, false},
		{"one above Place's", at(4, 2), []uint64{3}, true},
		{"one below Place's, then more", at(4, 2), []uint64{1, 2, 3}, false},
		{"of the message's", at(4, 2), []uint64{5}, true},
		{"one above the message's", at(4, 2), []uint64{6}, false},
		{"one above the message's, at the end", at(4, 2), []uint64{5, 6}, false},
		{"one above the message's, then less", at(4, 2), []uint64{6, 5}, false},
		{"far above the message's", at(4, 2), []uint64{5, math.MaxUint64}, false},
		{"of 0", at(4, 2), []uint64{0}, false},
		{"of 0, at the end", at(4, 2), []uint64{2, 0}, false},
		{"of 0, behind no place", at(0, 0), []uint64{0}, false},
		{"of 0, then 1, behind no place", at(0, 0), []uint64{0, 1}, false},
		{"of 1, behind no place", at(0, 0), []uint64{1}, true},
		{"of 5, behind no place", at(0, 0), []uint64{5}, true},
		{"of 6, behind no place", at(0, 0), []uint64{6}, false},
		{"that rise to 8, behind no place", at(0, 0), []uint64{1, 1, 2, 2, 3, 4, 5, 5}, true},
		{"of the message's, behind its Term", at(4, 5), []uint64{5, 5}, true},
		{"one below the message's, behind its Term", at(4, 5), []uint64{4}, false},
	} {
		m := api.Msg{Kind: api.MsgAppend, From: 1, To: 2, Term: 5, Place: x.place, Entries: none(x.terms...)}
		check(t, "Terms "+x.what, m, x.so)
	}
	m := api.Msg{Kind: api.MsgAppend, From: 1, To: 2, Term: maxTerm, Entries: none(1, maxTerm)}
	may(t, "an entry of MaxTerm", m)
	mayNot(t, "an entry above MaxTerm", with(m, func(m *api.Msg) { m.Entries[1].Term++ }))
}

// P13.1 to P13.3: Place.Index and the count of Entries together 2^64 - 3, 2^64 - 2 and above.
func TestEndOfIndices(t *testing.T) {
	for n := range 9 {
		for less := range uint64(12) {
			index := math.MaxUint64 - less
			so := less > uint64(n) // together at most 2^64 - 2
			m := with(of(api.MsgAppend), func(m *api.Msg) { m.Place, m.Entries = at(index, 2), level(n, 3) })
			check(t, strconv.Itoa(n)+" entries behind 2^64 - 1, and less by "+strconv.Itoa(int(less)), m, so)
		}
	}
	for _, kind := range []int{api.MsgAsk, api.MsgVote, api.MsgSnap} {
		for less := range uint64(3) {
			m := with(of(kind), func(m *api.Msg) { m.Place = at(math.MaxUint64-less, 2) })
			check(t, "Kind "+strconv.Itoa(kind)+" of 2^64 - 1, and less by "+strconv.Itoa(int(less)), m, less > 0)
		}
	}
}

// P13.1 to P13.3: a Conf of no member, of MaxMembers and of one more; members 0, 1, 255 and 256, at each place; those too that can't be members of anything.
func TestConfs(t *testing.T) {
	put := func(what string, so bool, members ...int) {
		t.Helper()
		check(t, "a Conf of "+what, with(of(api.MsgSnap), func(m *api.Msg) { m.Conf.Members = members }), so)
	}
	for n := range 300 {
		put(strconv.Itoa(n)+" members", n <= 5, slices.Repeat([]int{7}, n)...)
	}
	for _, member := range append([]int{1, 2, 5, 6, 7, 254}, strange...) {
		so := member >= 1 && member <= 255
		for n := 1; n <= 5; n++ {
			for place := range n {
				members := []int{1, 2, 3, 4, 5}[:n]
				members[place] = member
				put(strconv.Itoa(member)+" at place "+strconv.Itoa(place), so, members...)
			}
		}
	}
	put("one twice", true, 2, 2)
	put("members that fall", true, 3, 2, 1)
	put("no servers", true, 6, 200)
}

// P13.1 to P13.3: Data of no byte, of MaxSnap bytes and of one more, whatever stands there.
func TestLengthsOfData(t *testing.T) {
	for _, n := range []int{0, 1, 2, 255, 256, 257, 65534, 65535, 65536, 65537, 65538, 131072, 131073, 1 << 24} {
		for _, conf := range []api.Conf{{}, {Members: []int{1, 2, 3}}} {
			m := with(of(api.MsgSnap), func(m *api.Msg) { m.Conf, m.Data = conf, bytes.Repeat([]byte{5}, n) })
			check(t, "Data of "+strconv.Itoa(n)+" bytes", m, n <= 65536)
		}
	}
	for x := range 256 {
		may(t, "Data of byte "+strconv.Itoa(x), with(of(api.MsgSnap), func(m *api.Msg) { m.Data = []byte{byte(x)} }))
	}
}

// unlike are messages that differ from m in one field each.
func unlike(m api.Msg) []api.Msg {
	var list []api.Msg
	add := func(do func(m *api.Msg)) { list = append(list, with(m, do)) }
	for _, more := range []int{1, -1, 256, 1 << 32, math.MinInt} {
		add(func(m *api.Msg) { m.Kind += more })
		add(func(m *api.Msg) { m.From += more })
		add(func(m *api.Msg) { m.To += more })
	}
	for _, more := range []uint64{1, 256, 1 << 32, 1 << 63, math.MaxUint64} {
		add(func(m *api.Msg) { m.Term += more })
		add(func(m *api.Msg) { m.Place.Index += more })
		add(func(m *api.Msg) { m.Place.Term += more })
		add(func(m *api.Msg) { m.Commit += more })
		add(func(m *api.Msg) { m.Index += more })
	}
	add(func(m *api.Msg) { m.Ok = !m.Ok })
	add(func(m *api.Msg) { m.Entries = append(m.Entries, api.Entry{}) })
	add(func(m *api.Msg) { m.Entries = slices.Insert(m.Entries, 0, api.Entry{Term: 98, Kind: 4}) })
	for i := range m.Entries {
		add(func(m *api.Msg) { m.Entries = m.Entries[:i] })
		add(func(m *api.Msg) { m.Entries[i].Term++ })
		add(func(m *api.Msg) { m.Entries[i].Kind++ })
		add(func(m *api.Msg) { m.Entries[i].Data = append(m.Entries[i].Data, 0) })
		for at := range m.Entries[i].Data {
			add(func(m *api.Msg) { m.Entries[i].Data[at]++ })
		}
	}
	add(func(m *api.Msg) { m.Conf.Members = append(m.Conf.Members, 0) })
	for i := range m.Conf.Members {
		add(func(m *api.Msg) { m.Conf.Members = m.Conf.Members[:i] })
		add(func(m *api.Msg) { m.Conf.Members[i]++ })
		add(func(m *api.Msg) { m.Conf.Members[i] += 256 })
	}
	add(func(m *api.Msg) { m.Data = append(m.Data, 0) })
	for i := range m.Data {
		add(func(m *api.Msg) { m.Data = m.Data[:i] })
		add(func(m *api.Msg) { m.Data[i]++ })
	}
	return list
}

// P13.1, P13.4: Same of messages that differ in one field each, whether they may be or not; unlike ones that may be have unlike bytes.
func TestSame(t *testing.T) {
	strangest := api.Msg{Kind: 99, From: -1, To: -1, Term: math.MaxUint64, Place: at(0, 5), Entries: []api.Entry{{Kind: 9, Data: []byte{1}}, {Term: 1}},
		Commit: 7, Ok: true, Index: 7, Conf: api.Conf{Members: []int{0, -5, 300}}, Data: []byte{0, 1}}
	long := with(of(api.MsgSnap), func(m *api.Msg) { m.Entries, m.Data = level(20, 0), make([]byte, 5) })
	list := slices.Concat(someMessages(), wellFilled(), []api.Msg{{}, strangest, long})
	for _, m := range list {
		asModel(t, "itself", m)
		bare, _ := frame.Encode(m)
		for _, other := range unlike(m) {
			if frame.Same(m, other) || frame.Same(other, m) {
				t.Errorf("%v and %v: the same", m, other)
			}
			if b, err := frame.Encode(other); err == api.OK && bytes.Equal(b, bare) {
				t.Errorf("%v and %v: the same bytes", m, other)
			}
			if b, err := frame.Encode(other); err == api.OK != modelMay(other) || err != api.OK && len(b) > 0 {
				t.Errorf("%v: Encode: % x, error %d", other, b, err)
			}
		}
	}
	swapped := with(strangest, func(m *api.Msg) { slices.Reverse(m.Conf.Members) })
	if frame.Same(strangest, swapped) || frame.Same(of(6), with(of(6), func(m *api.Msg) { m.From, m.To = m.To, m.From })) {
		t.Error("the other way round: the same")
	}
}

// P13.1: nil and empty lists are the same, and may be alike.
func TestNilAndEmpty(t *testing.T) {
	for _, m := range append(ofEach(), api.Msg{}, with(of(5), func(m *api.Msg) { m.Entries = none(1, 2) })) {
		bare := m
		bare.Conf.Members, bare.Data = nil, nil
		if len(m.Entries) == 0 {
			bare.Entries = nil
		}
		bare.Entries = slices.Clone(bare.Entries)
		for i := range bare.Entries {
			bare.Entries[i].Data = nil
		}
		full := plain(bare)
		if !frame.Same(bare, full) || !frame.Same(full, bare) {
			t.Errorf("%v: nil and empty lists are not the same", m)
		}
		is(t, "nil and empty", frame.Check(bare), frame.Check(full))
		asModel(t, "nil", bare)
		asModel(t, "empty", full)
	}
}

// P13.1, R3: Same changes neither of both.
func TestSameChangesNothing(t *testing.T) {
	for _, m := range wellFilled() {
		for _, other := range unlike(m) {
			a, b := handed(m), handed(other)
			frame.Same(a, b)
			untouched(t, "the one", a, m)
			untouched(t, "the other", b, other)
		}
	}
}

// P13.3: bytes that are too few, whatever they say: of no byte, of 31, and of 32, that are the SHA-256 of nothing, too.
func TestShort(t *testing.T) {
	nothing := hexed(t, "e3b0c44298fc1c149afbf4c8996fb92427ae41e4649b934ca495991b7852b855")
	says(t, "no list", nil, api.ErrShort)
	says(t, "an empty list", []byte{}, api.ErrShort)
	for n := range 32 {
		says(t, strconv.Itoa(n)+" noughts", make([]byte, n), api.ErrShort)
		says(t, strconv.Itoa(n)+" bytes of the SHA-256 of nothing", nothing[:n], api.ErrShort)
		says(t, strconv.Itoa(n)+" bytes of a message", sealed(modelBytes(of(4)))[:n], api.ErrShort)
	}
	says(t, "the SHA-256 of nothing", nothing, api.ErrFrame)
	says(t, "32 noughts", make([]byte, 32), api.ErrFrame)
	says(t, "33 noughts", make([]byte, 33), api.ErrFrame)
	says(t, "the SHA-256 of nothing, twice", slices.Concat(nothing, nothing), api.ErrFrame)
	says(t, "the SHA-256 of one byte", sealed([]byte{1}), api.ErrFrame)
}

// P13.3: bytes whose last 32 are not the SHA-256 of the rest: each bit of them in turn is another one, and each byte is gone, or is more.
func TestSumsThatAreWrong(t *testing.T) {
	for _, m := range someMessages() {
		row := modelBytes(m)
		b := sealed(row)
		says(t, "whole", b, api.OK)
		for place := range b {
			for bit := range 8 {
				other := slices.Clone(b)
				other[place] ^= 1 << bit
				says(t, "a bit is another one", other, api.ErrFrame)
			}
			says(t, "a byte is more", slices.Insert(slices.Clone(b), place, 0), api.ErrFrame)
			want := api.ErrFrame
			if place < 32 {
				want = api.ErrShort
			}
			says(t, "cut off", b[:place], want)
		}
		says(t, "a nought behind", slices.Concat(b, []byte{0}), api.ErrFrame)
		says(t, "twice", slices.Concat(b, b), api.ErrFrame)
		sum := b[len(row):]
		says(t, "the SHA-256 ahead", slices.Concat(sum, row), api.ErrFrame)
		says(t, "no SHA-256", slices.Concat(row, make([]byte, 32)), api.ErrFrame)
		says(t, "the SHA-256 of all of it", sealed(b), api.ErrFrame)
		turned := slices.Clone(sum)
		slices.Reverse(turned)
		says(t, "the SHA-256 turned round", slices.Concat(row, turned), api.ErrFrame)
	}
}

// P13.3: bytes with a right SHA-256 that are cut short, or have bytes too many behind.
func TestBeginningsAndMore(t *testing.T) {
	long := with(of(api.MsgSnap), func(m *api.Msg) { m.Conf.Members, m.Data = []int{1, 2, 3}, bytes.Repeat([]byte{9}, 1000) })
	full := with(of(api.MsgAppend), func(m *api.Msg) {
		m.Entries = slices.Repeat([]api.Entry{{Term: 3, Kind: api.EntCommand, Data: bytes.Repeat([]byte{9}, 100)}}, 8)
	})
	for _, m := range append(someMessages(), long, full) {
		row := modelBytes(m)
		for n := range row {
			says(t, strconv.Itoa(n)+" bytes of "+strconv.Itoa(len(row)), sealed(row[:n]), api.ErrFrame)
		}
		for _, more := range [][]byte{{0}, {1}, {255}, {0, 0}, row, make([]byte, 1000)} {
			says(t, "more behind", sealed(slices.Concat(row, more)), api.ErrFrame)
		}
	}
	says(t, "a message, and very much more", sealed(append(modelBytes(of(4)), make([]byte, 1<<20)...)), api.ErrFrame)
}

// P13.3: an Ok that is neither 0 nor 1.
func TestOksThatAreNone(t *testing.T) {
	for _, kind := range []int{api.MsgAsked, api.MsgVoted, api.MsgAppended} {
		row := modelBytes(of(kind))
		for x := range 256 {
			row[11] = byte(x)
			want := api.ErrFrame
			if x < 2 {
				want = api.OK
			}
			says(t, "an Ok of "+strconv.Itoa(x), sealed(row), want)
			if m, _ := frame.Decode(sealed(row)); m.Ok != (x == 1) {
				t.Errorf("an Ok of %d: %v", x, m)
			}
		}
	}
}

// P13.3: counts that go beyond what is there, or fall short of it.
func TestCountsThatAreWrong(t *testing.T) {
	head := func(kind byte, rest ...[]byte) []byte {
		return slices.Concat([]byte{kind, 1, 2}, number(3, 8), number(4, 8), number(2, 8), slices.Concat(rest...))
	}
	entry := func(n uint64, data string) []byte {
		return slices.Concat(number(3, 8), []byte{2}, number(n, 2), []byte(data))
	}
	end := number(5, 8)
	for _, x := range []struct {
		what string
		row  []byte
		err  api.Errno
	}{
		{"no entry", head(5, []byte{0}, end), api.OK},
		{"no entry, and one is there", head(5, []byte{0}, entry(1, "a"), end), api.ErrFrame},
		{"one entry", head(5, []byte{1}, entry(1, "a"), end), api.OK},
		{"one entry, and none is there", head(5, []byte{1}, end), api.ErrFrame},
		{"one entry, and two are there", head(5, []byte{1}, entry(1, "a"), entry(1, "a"), end), api.ErrFrame},
		{"two entries, and one is there", head(5, []byte{2}, entry(1, "a"), end), api.ErrFrame},
		{"eight entries", head(5, []byte{8}, bytes.Repeat(entry(0, ""), 8), end), api.OK},
		{"nine entries", head(5, []byte{9}, bytes.Repeat(entry(0, ""), 9), end), api.ErrFrame},
		{"255 entries", head(5, []byte{255}, bytes.Repeat(entry(0, ""), 255), end), api.ErrFrame},
		{"255 entries, and none is there", head(5, []byte{255}), api.ErrFrame},
		{"255 entries, and eight are there", head(5, []byte{255}, bytes.Repeat(entry(0, ""), 8), end), api.ErrFrame},
		{"Data of an entry of two bytes, and one is there", head(5, []byte{1}, entry(2, "a"), end), api.ErrFrame},
		{"Data of an entry of one byte, and two are there", head(5, []byte{1}, entry(1, "ab"), end), api.ErrFrame},
		{"Data of an entry of 9 bytes, which are Commit's, too", head(5, []byte{1}, entry(9, "a"), end), api.ErrFrame},
		{"Data of an entry of 256 bytes, and none is there", head(5, []byte{1}, entry(256, ""), end), api.ErrFrame},
		{"Data of an entry of 1024 bytes", head(5, []byte{1}, entry(1024, strings.Repeat("a", 1024)), end), api.OK},
		{"Data of an entry of 1025 bytes", head(5, []byte{1}, entry(1025, strings.Repeat("a", 1025)), end), api.ErrFrame},
		{"Data of an entry of 65535 bytes, and few are there", head(5, []byte{1}, entry(65535, "abc"), end), api.ErrFrame},
		{"Data of an entry of 65535 bytes", head(5, []byte{1}, entry(65535, strings.Repeat("a", 65535)), end), api.ErrFrame},
		{"no member, no Data", head(7, []byte{0}, number(0, 4)), api.OK},
		{"one member, and none is there", head(7, []byte{1}, number(0, 4)), api.ErrFrame},
		{"no member, and one is there", head(7, []byte{0, 1}, number(0, 4)), api.ErrFrame},
		{"five members", head(7, []byte{5, 1, 2, 3, 4, 5}, number(0, 4)), api.OK},
		{"six members", head(7, []byte{6, 1, 2, 3, 4, 5, 6}, number(0, 4)), api.ErrFrame},
		{"255 members", head(7, bytes.Repeat([]byte{255}, 256), number(0, 4)), api.ErrFrame},
		{"255 members, and three are there", head(7, []byte{255, 1, 2, 3}), api.ErrFrame},
		{"Data of two bytes, and one is there", head(7, []byte{0}, number(2, 4), []byte{1}), api.ErrFrame},
		{"Data of one byte, and two are there", head(7, []byte{0}, number(1, 4), []byte{1, 2}), api.ErrFrame},
		{"Data of 2^31 bytes, and few are there", head(7, []byte{0}, number(1<<31, 4), []byte{1, 2}), api.ErrFrame},
		{"Data of 2^32 - 1 bytes, and few are there", head(7, []byte{0}, number(1<<32-1, 4), []byte{1, 2}), api.ErrFrame},
		{"Data of 65536 bytes", head(7, []byte{0}, number(65536, 4), make([]byte, 65536)), api.OK},
		{"Data of 65537 bytes", head(7, []byte{0}, number(65537, 4), make([]byte, 65537)), api.ErrFrame},
		{"Data of 2^24 bytes", head(7, []byte{0}, number(1<<24, 4), make([]byte, 1<<24)), api.ErrFrame},
		{"Data of 2^24 bytes, and none is there", head(7, []byte{0}, number(1<<24, 4)), api.ErrFrame},
	} {
		says(t, x.what, sealed(x.row), x.err)
	}
}

// P13.4: Decode of Encode is the message, Encode of Decode the bytes.
func TestThereAndBack(t *testing.T) {
	for _, m := range append(someMessages(), wellFilled()...) {
		b, err := frame.Encode(m)
		is(t, "Encode", err, api.OK)
		got, err := frame.Decode(b)
		if err != api.OK || !same(got, m) || !frame.Same(got, m) {
			t.Errorf("Decode of Encode of %v: %v, error %d", m, got, err)
		}
		again, err := frame.Encode(got)
		if err != api.OK || !bytes.Equal(again, b) {
			t.Errorf("Encode of Decode of % x: % x, error %d", b, again, err)
		}
	}
}
