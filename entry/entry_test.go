package entry_test

import (
	"bytes"
	"math"
	"slices"
	"strconv"
	"strings"
	"testing"

	"confluence/api"
	"confluence/entry"
)

// text is a text of n bytes.
func text(n int) string {
	return strings.Repeat("x", n)
}

// one and two are Ids that have something at either end alone.
var one, two = api.Id{0: 1}, api.Id{31: 2}

// read, swap, force and put are commands of those Kinds, with no more than they need.
func read() api.Command {
	return api.Command{Kind: api.CmdRead, Client: 1, Seq: 1, Branch: "m"}
}

func swap() api.Command {
	return api.Command{Kind: api.CmdSwap, Client: 1, Seq: 1, Branch: "m"}
}

func force() api.Command {
	return api.Command{Kind: api.CmdForce, Client: 1, Seq: 1, Branch: "m"}
}

func put() api.Command {
	return api.Command{Kind: api.CmdPut, Client: 1, Seq: 1, Data: []byte{7}}
}

// ofEach are commands of each Kind.
func ofEach() []api.Command {
	return []api.Command{read(), swap(), force(), put()}
}

// with is a command to which something was done.
func with(c api.Command, do func(c *api.Command)) api.Command {
	do(&c)
	return c
}

// someCommands are commands that may be, of not too many bytes.
func someCommands() []api.Command {
	return append(ofEach(),
		api.Command{Kind: api.CmdRead, Client: 2, Seq: 0x01020304, Branch: "!a~"},
		api.Command{Kind: api.CmdRead, Client: 3, Seq: math.MaxUint32, Branch: text(24)},
		api.Command{Kind: api.CmdSwap, Client: 2, Seq: 256, Branch: "mn", Old: one, New: two},
		api.Command{Kind: api.CmdSwap, Client: 2, Seq: 256, Branch: "mn", Old: two},
		api.Command{Kind: api.CmdSwap, Client: 2, Seq: 256, Branch: "mn", New: one},
		api.Command{Kind: api.CmdForce, Client: 3, Seq: 65536, Branch: "0", New: two},
		api.Command{Kind: api.CmdPut, Client: 3, Seq: 1 << 31, Data: []byte(text(300))},
		api.Command{Kind: api.CmdPut, Client: 1, Seq: 2, Data: make([]byte, 2)},
	)
}

// room is what stands behind the end of bytes that are roomy.
var room = bytes.Repeat([]byte{0xee}, 40)

// roomy is bytes with room behind their end.
func roomy(b []byte) []byte {
	return slices.Concat(b, room)[:len(b)]
}

// untouched fails the test if roomy bytes, or the room behind their end, are not as they were.
func untouched(t *testing.T, what string, b, were []byte) {
	t.Helper()
	if !bytes.Equal(b, were) {
		t.Errorf("%s: what was handed in is % x, and was % x", what, b, were)
	}
	if !bytes.Equal(b[len(b):len(b)+len(room)], room) {
		t.Errorf("%s: the room behind what was handed in has changed", what)
	}
}

// overwrite fills bytes, and the room behind their end.
func overwrite(b []byte) {
	whole := b[:cap(b)]
	for i := range whole {
		whole[i] = 0xaa
	}
}

// is fails the test if an error is another one.
func is(t *testing.T, what string, got, want api.Errno) {
	t.Helper()
	if got != want && !t.Failed() { // one fault is enough to read
		t.Errorf("%s: error %d, not %d", what, got, want)
	}
}

// asModel asks Check, Encode and Same of a command, and holds the answers against the model; what is handed in stays, and is not kept.
func asModel(t *testing.T, what string, c api.Command) {
	t.Helper()
	if t.Failed() {
		return // one fault is enough to read
	}
	var want []byte
	err := api.ErrCommand
	if modelMay(c) {
		want, err = modelBytes(c), api.OK
	}
	// The second time what was answered first has been written over.
	for range 2 {
		in := c
		in.Data = roomy(c.Data)
		is(t, what+": Check", entry.Check(in), err)
		b, e := entry.Encode(in)
		is(t, what+": Encode", e, err)
		if !entry.Same(in, c) || !entry.Same(c, in) {
			t.Errorf("%s: not the same as itself", what)
		}
		untouched(t, what, in.Data, c.Data)
		clear(in.Data)
		if !bytes.Equal(b, want) {
			t.Errorf("%s: Encode: % x, not % x", what, b, want)
		}
		overwrite(b)
		if !bytes.Equal(in.Data, make([]byte, len(c.Data))) {
			t.Errorf("%s: Encode has told of what was handed in", what)
		}
	}
	if err == api.OK {
		decodes(t, what, want)
	}
}

// may and mayNot fail the test if a command may not be, or may: in all calls, and by the model too.
func may(t *testing.T, what string, c api.Command) {
	t.Helper()
	is(t, what, entry.Check(c), api.OK)
	asModel(t, what, c)
}

func mayNot(t *testing.T, what string, c api.Command) {
	t.Helper()
	is(t, what, entry.Check(c), api.ErrCommand)
	asModel(t, what, c)
}

// decodes fails the test if Decode answers something else than the model, changes the bytes, or keeps them; and if Encode does not lead back.
func decodes(t *testing.T, what string, b []byte) {
	t.Helper()
	if t.Failed() {
		return // one fault is enough to read
	}
	want, err := modelDecode(b)
	in := roomy(b)
	got, e := entry.Decode(in)
	if e != err || !same(got, want) {
		t.Errorf("%s: Decode of % x: %v, error %d, not %v, %d", what, b, got, e, want, err)
	}
	untouched(t, what+": Decode", in, b)
	clear(in[:cap(in)])
	if !same(got, want) {
		t.Errorf("%s: Decode of % x has kept the bytes", what, b)
	}
	if err != api.OK {
		return
	}
	again, e := entry.Encode(got)
	if e != api.OK || !bytes.Equal(again, b) {
		t.Errorf("%s: Encode of Decode: % x, error %d, not % x", what, again, e, b)
	}
	overwrite(got.Data)
	if !bytes.Equal(in[:cap(in)], make([]byte, cap(in))) {
		t.Errorf("%s: Decode has told of the bytes themselves", what)
	}
	if other, _ := entry.Decode(b); !same(other, want) {
		t.Errorf("%s: Decode of % x again: %v, not %v", what, b, other, want)
	}
}

// says fails the test if Decode does not answer just that error, by the model too.
func says(t *testing.T, what string, b []byte, want api.Errno) {
	t.Helper()
	_, err := entry.Decode(b)
	is(t, what+": Decode", err, want)
	decodes(t, what, b)
}

// P11.1, P11.2: the chapter's examples.
func TestExamples(t *testing.T) {
	c := api.Command{Kind: api.CmdRead, Client: 1, Seq: 2, Branch: "m"}
	b, err := entry.Encode(c)
	is(t, "CmdRead", err, api.OK)
	want := append([]byte{1, 1, 0, 0, 0, 2, 1, 0x6d}, make([]byte, 66)...)
	if !bytes.Equal(b, want) {
		t.Errorf("CmdRead: % x, not % x", b, want)
	}
	says(t, "CmdRead", want, api.OK)
	mayNot(t, "Seq 0", with(c, func(c *api.Command) { c.Seq = 0 }))
	mayNot(t, "CmdRead with a New", with(c, func(c *api.Command) { c.New = one }))
	says(t, "01", []byte{1}, api.ErrShort)
}

// P11.1, P11.2: bytes, written out.
func TestBytesWrittenOut(t *testing.T) {
	id := func(from byte) (id api.Id) {
		for i := range id {
			id[i] = from + byte(i)
		}
		return id
	}
	low, high := id(1), id(101)
	none := make([]byte, 32)
	for _, x := range []struct {
		what string
		c    api.Command
		row  []byte
	}{
		{"a swap", api.Command{Kind: 2, Client: 3, Seq: 0xfedcba98, Branch: "ab", Old: low, New: high},
			slices.Concat([]byte{2, 3, 0xfe, 0xdc, 0xba, 0x98, 2, 'a', 'b'}, low[:], high[:], []byte{0, 0})},
		{"a swap to nothing", api.Command{Kind: 2, Client: 1, Seq: 1, Branch: "~", Old: high},
			slices.Concat([]byte{2, 1, 0, 0, 0, 1, 1, 126}, high[:], none, []byte{0, 0})},
		{"a swap from nothing", api.Command{Kind: 2, Client: 1, Seq: 1, Branch: "!", New: low},
			slices.Concat([]byte{2, 1, 0, 0, 0, 1, 1, 33}, none, low[:], []byte{0, 0})},
		{"a force", api.Command{Kind: 3, Client: 2, Seq: 0x00010200, Branch: "m", New: high},
			slices.Concat([]byte{3, 2, 0, 1, 2, 0, 1, 'm'}, none, high[:], []byte{0, 0})},
		{"a put", api.Command{Kind: 4, Client: 2, Seq: 3, Data: []byte{1, 0, 2, 'h', 'i'}},
			slices.Concat([]byte{4, 2, 0, 0, 0, 3, 0}, none, none, []byte{0, 5, 1, 0, 2, 'h', 'i'})},
		{"a put of 800 bytes", api.Command{Kind: 4, Client: 2, Seq: 3, Data: []byte(text(800))},
			slices.Concat([]byte{4, 2, 0, 0, 0, 3, 0}, none, none, []byte{3, 32}, []byte(text(800)))},
		{"a put of 255 bytes", api.Command{Kind: 4, Client: 2, Seq: 3, Data: []byte(text(255))},
			slices.Concat([]byte{4, 2, 0, 0, 0, 3, 0}, none, none, []byte{0, 255}, []byte(text(255)))},
		{"a put of 256 bytes", api.Command{Kind: 4, Client: 2, Seq: 3, Data: []byte(text(256))},
			slices.Concat([]byte{4, 2, 0, 0, 0, 3, 0}, none, none, []byte{1, 0}, []byte(text(256)))},
		{"a read of 24 bytes", api.Command{Kind: 1, Client: 1, Seq: 1, Branch: text(24)},
			slices.Concat([]byte{1, 1, 0, 0, 0, 1, 24}, []byte(text(24)), make([]byte, 66))},
	} {
		b, err := entry.Encode(x.c)
		if err != api.OK || !bytes.Equal(b, x.row) {
			t.Errorf("%s: Encode: % x, error %d, not % x", x.what, b, err, x.row)
		}
		c, err := entry.Decode(x.row)
		if err != api.OK || !same(c, x.c) {
			t.Errorf("%s: Decode: %v, error %d, not %v", x.what, c, err, x.c)
		}
		asModel(t, x.what, x.c)
	}
}

// P11.1, P11.2: Kinds: one below the first and one above the last; those too of which the lowest byte is a Kind, and those of something else.
func TestKinds(t *testing.T) {
	for _, c := range ofEach() {
		may(t, "Kind "+strconv.Itoa(c.Kind), c)
		for _, kind := range []int{math.MinInt, -255, -1, 0, 5, 6, 8, 255, 256, 257, 258, 259, 260, 1<<32 + 1, math.MaxInt} {
			other := with(c, func(c *api.Command) { c.Kind = kind })
			mayNot(t, "Kind "+strconv.Itoa(kind), other)
			if kind >= 0 && kind < 256 {
				says(t, "Kind "+strconv.Itoa(kind), modelBytes(other), api.ErrCommand)
			}
		}
	}
	for _, kind := range []int{api.CmdRead, api.CmdSwap, api.CmdForce} {
		mayNot(t, "a put of Kind "+strconv.Itoa(kind), with(put(), func(c *api.Command) { c.Kind = kind }))
		may(t, "a read of Kind "+strconv.Itoa(kind), with(read(), func(c *api.Command) { c.Kind = kind }))
	}
	mayNot(t, "a read of Kind 4", with(read(), func(c *api.Command) { c.Kind = api.CmdPut }))
	for kind := range 6 {
		mayNot(t, "nothing but a Kind", api.Command{Kind: kind})
		mayNot(t, "nothing but who asks", api.Command{Kind: kind, Client: 1, Seq: 1})
	}
}

// P11.1, P11.2: Clients: 0, 1, MaxClients and one more; those too of which the lowest byte is a client.
func TestClients(t *testing.T) {
	for _, c := range ofEach() {
		for _, client := range []int{1, 2, 3} {
			may(t, "Client "+strconv.Itoa(client), with(c, func(c *api.Command) { c.Client = client }))
		}
		for _, client := range []int{math.MinInt, -255, -1, 0, 4, 5, 8, 255, 256, 257, 258, 259, 1<<32 + 1, math.MaxInt} {
			other := with(c, func(c *api.Command) { c.Client = client })
			mayNot(t, "Client "+strconv.Itoa(client), other)
			if client >= 0 && client < 256 {
				says(t, "Client "+strconv.Itoa(client), modelBytes(other), api.ErrCommand)
			}
		}
	}
}

// P11.1, P11.2: Seqs: 0, 1 and the greatest, and what lies in each of the four bytes.
func TestSeqs(t *testing.T) {
	for _, c := range ofEach() {
		none := with(c, func(c *api.Command) { c.Seq = 0 })
		mayNot(t, "Seq 0", none)
		says(t, "Seq 0", modelBytes(none), api.ErrCommand)
		for _, seq := range []uint32{1, 2, 255, 256, 65535, 65536, 1<<24 - 1, 1 << 24, math.MaxInt32, 1 << 31, math.MaxUint32 - 1, math.MaxUint32} {
			may(t, "Seq "+strconv.Itoa(int(seq)), with(c, func(c *api.Command) { c.Seq = seq }))
		}
	}
}

// P11.1, P11.2: how many bytes a Branch has: none, 1, MaxBranch and one more; such too whose number does not lie in a byte.
func TestLengthsOfBranches(t *testing.T) {
	for _, c := range []api.Command{read(), swap(), force()} {
		for n := range 300 {
			other := with(c, func(c *api.Command) { c.Branch = text(n) })
			what := "a Branch of " + strconv.Itoa(n) + " bytes"
			if n >= 1 && n <= 24 {
				may(t, what, other)
				continue
			}
			mayNot(t, what, other)
			if n < 256 {
				says(t, what, modelBytes(other), api.ErrCommand)
			}
		}
		for _, n := range []int{65535, 65536, 65537, 1 << 20} {
			mayNot(t, "a Branch of "+strconv.Itoa(n)+" bytes", with(c, func(c *api.Command) { c.Branch = text(n) }))
		}
	}
	for _, n := range []int{1, 24, 25, 255, 256, 257} {
		other := with(put(), func(c *api.Command) { c.Branch = text(n) })
		mayNot(t, "a put with a Branch", other)
		if n < 256 {
			says(t, "a put with a Branch", modelBytes(other), api.ErrCommand)
		}
	}
}

// P11.1, P11.2: each byte, at each place of a Branch; 33 to 126 may be there, and bytes above 127, text or none, may not.
func TestBytesOfBranches(t *testing.T) {
	for x := range 256 {
		check, err := mayNot, api.ErrCommand
		if x >= 33 && x <= 126 {
			check, err = may, api.OK
		}
		for _, n := range []int{1, 2, 3, 24} {
			for at := range n {
				name := []byte(text(n))
				name[at] = byte(x)
				c := with(swap(), func(c *api.Command) { c.Branch = string(name) })
				what := "byte " + strconv.Itoa(x) + " at place " + strconv.Itoa(at)
				check(t, what, c)
				says(t, what, modelBytes(c), err)
			}
		}
	}
	for _, c := range []api.Command{read(), swap(), force()} {
		for _, name := range []string{
			" ", "\x7f", "\x80", "\xff", "\x00", "a b", "a\n", "m ", " m", "é", "mé", "\u00e9m", "中", "𝄞", "\u0100", "\u0121", "\ufffd",
			"\xc3", "\xc3\x28", "\xe4\xb8", "\xed\xa0\x80", "\xf8\x88\x80\x80\x80", "\xc0\xa1", "\xc1\xbf", "a\xa1", strings.Repeat("é", 12), strings.Repeat("é", 24),
		} {
			other := with(c, func(c *api.Command) { c.Branch = name })
			mayNot(t, "the Branch "+strconv.Quote(name), other)
			says(t, "the Branch "+strconv.Quote(name), modelBytes(other), api.ErrCommand)
		}
		for _, name := range []string{"!", "~", "0", "/", "a/b", "\"", "!~", "~!", "\\n", "M", "#$%&'()*+,-./:;<=>?@[]^"} {
			may(t, "the Branch "+name, with(c, func(c *api.Command) { c.Branch = name }))
		}
	}
}

// P11.1, P11.2: Old and New, zero and not, of each Kind: not by one byte alone, wherever it is.
func TestIds(t *testing.T) {
	for _, c := range ofEach() {
		for at := range 32 {
			for _, x := range []byte{1, 255} {
				old := with(c, func(c *api.Command) { c.Old[at] = x })
				fresh := with(c, func(c *api.Command) { c.New[at] = x })
				both := with(old, func(c *api.Command) { c.New[31-at] = x })
				hasOld, hasNew := mayNot, mayNot
				errOld, errNew := api.ErrCommand, api.ErrCommand
				if c.Kind == api.CmdSwap {
					hasOld, errOld = may, api.OK
				}
				if c.Kind == api.CmdSwap || c.Kind == api.CmdForce {
					hasNew, errNew = may, api.OK
				}
				what := "Kind " + strconv.Itoa(c.Kind) + " with place " + strconv.Itoa(at)
				hasOld(t, what+" of Old", old)
				says(t, what+" of Old", modelBytes(old), errOld)
				hasNew(t, what+" of New", fresh)
				says(t, what+" of New", modelBytes(fresh), errNew)
				hasOld(t, what+" of both", both)
				says(t, what+" of both", modelBytes(both), errOld)
			}
		}
	}
	may(t, "a swap of the same", with(swap(), func(c *api.Command) { c.Old, c.New = one, one }))
}

// P11.1, P11.2: how many bytes Data has: none, 1, MaxObject and one more, of CmdPut and of each other Kind; such too whose number does not lie in two bytes.
func TestLengthsOfData(t *testing.T) {
	for _, n := range []int{1, 2, 255, 256, 257, 799, 800, 801, 802, 1024, 65535, 65536, 65537, 65536 + 800, 1 << 20} {
		what := "Data of " + strconv.Itoa(n) + " bytes"
		data := []byte(text(n))
		check, err := mayNot, api.ErrCommand
		if n <= 800 {
			check, err = may, api.OK
		}
		c := with(put(), func(c *api.Command) { c.Data = data })
		check(t, what, c)
		if n < 65536 {
			says(t, what, modelBytes(c), err)
		}
		for _, c := range []api.Command{read(), swap(), force()} {
			other := with(c, func(c *api.Command) { c.Data = data })
			mayNot(t, what+" of another Kind", other)
			if n < 65536 {
				says(t, what+" of another Kind", modelBytes(other), api.ErrCommand)
			}
		}
	}
	for _, none := range [][]byte{nil, {}} {
		for _, c := range []api.Command{read(), swap(), force()} {
			may(t, "no Data", with(c, func(c *api.Command) { c.Data = none }))
		}
		c := with(put(), func(c *api.Command) { c.Data = none })
		mayNot(t, "a put of no Data", c)
		says(t, "a put of no Data", modelBytes(c), api.ErrCommand)
	}
}

// P11.1: Data of whatever bytes: what is no object is a put all the same.
func TestBytesOfData(t *testing.T) {
	all := make([]byte, 256)
	for x := range all {
		all[x] = byte(x)
		may(t, "Data of byte "+strconv.Itoa(x), with(put(), func(c *api.Command) { c.Data = []byte{byte(x)} }))
	}
	may(t, "Data of each byte", with(put(), func(c *api.Command) { c.Data = all }))
	may(t, "Data of noughts", with(put(), func(c *api.Command) { c.Data = make([]byte, 800) }))
}

// P11.1: Same of commands that differ in one field each, whether they may be or not.
func TestSame(t *testing.T) {
	unlike := func(what string, a, b api.Command) {
		t.Helper()
		if entry.Same(a, b) || entry.Same(b, a) {
			t.Errorf("%s: the same", what)
		}
	}
	alike := func(what string, a, b api.Command) {
		t.Helper()
		if !entry.Same(a, b) || !entry.Same(b, a) {
			t.Errorf("%s: not the same", what)
		}
	}
	full := api.Command{Kind: 7, Client: 8, Seq: 9, Branch: "a\x00é", Old: one, New: two, Data: []byte{1, 2, 3}}
	for _, c := range append(someCommands(), api.Command{}, full) {
		alike("itself", c, c)
		alike("another list of the same Data", c, with(c, func(c *api.Command) { c.Data = roomy(c.Data) }))
		for _, more := range []int{1, -1, 256, 1 << 32, math.MinInt} {
			unlike("another Kind", c, with(c, func(c *api.Command) { c.Kind += more }))
			unlike("another Client", c, with(c, func(c *api.Command) { c.Client += more }))
		}
		for _, more := range []uint32{1, 256, 65536, 1 << 24, 1 << 31, math.MaxUint32} {
			unlike("another Seq", c, with(c, func(c *api.Command) { c.Seq += more }))
		}
		for _, name := range []string{c.Branch + "x", c.Branch + " ", c.Branch + "\x00", "x" + c.Branch, "y"} {
			unlike("another Branch", c, with(c, func(c *api.Command) { c.Branch = name }))
		}
		for at := range 32 {
			unlike("another Old", c, with(c, func(c *api.Command) { c.Old[at]++ }))
			unlike("another New", c, with(c, func(c *api.Command) { c.New[at]++ }))
		}
		for at := range c.Data {
			unlike("another byte of Data", c, with(c, func(c *api.Command) {
				c.Data = slices.Clone(c.Data)
				c.Data[at]++
			}))
			unlike("Data that ends earlier", c, with(c, func(c *api.Command) { c.Data = c.Data[:at] }))
		}
		unlike("more Data", c, with(c, func(c *api.Command) { c.Data = slices.Concat(c.Data, []byte{0}) }))
		if c.Old != c.New {
			unlike("Old and New the other way round", c, with(c, func(c *api.Command) { c.Old, c.New = c.New, c.Old }))
		}
	}
	for _, c := range ofEach() {
		c.Data = nil
		alike("nil and empty Data", c, with(c, func(c *api.Command) { c.Data = []byte{} }))
	}
	unlike("Branches in other letters", read(), with(read(), func(c *api.Command) { c.Branch = "M" }))
	unlike("Kind and Client the other way round", api.Command{Kind: 1, Client: 2}, api.Command{Kind: 2, Client: 1})
	unlike("Branches that are no text", api.Command{Branch: "\x80"}, api.Command{Branch: "\x81"})
}

// P11.1, R3: Same changes neither of both.
func TestSameChangesNothing(t *testing.T) {
	a, b := put(), put()
	a.Data, b.Data = roomy([]byte{1, 2}), roomy([]byte{1, 2, 3})
	entry.Same(a, b)
	untouched(t, "the one", a.Data, []byte{1, 2})
	untouched(t, "the other", b.Data, []byte{1, 2, 3})
}

// P11.2, P11.3: each beginning of a command's bytes is ErrShort, with more behind them they are ErrCommand; whole they are the command.
func TestBeginningsAndMore(t *testing.T) {
	list := append(someCommands(), with(put(), func(c *api.Command) { c.Data = []byte(text(800)) }))
	for _, c := range list {
		b, err := entry.Encode(c)
		is(t, "Encode", err, api.OK)
		got, err := entry.Decode(b)
		if err != api.OK || !same(got, c) || !entry.Same(got, c) {
			t.Errorf("Decode of Encode of %v: %v, error %d", c, got, err)
		}
		for n := range b {
			says(t, strconv.Itoa(n)+" bytes of "+strconv.Itoa(len(b)), b[:n], api.ErrShort)
			// The rest stands behind the end of what is handed in, and does not count.
			if got, err := entry.Decode(b[:n]); err != api.ErrShort || !same(got, api.Command{}) {
				t.Errorf("%d bytes of %d: %v, error %d", n, len(b), got, err)
			}
		}
		for _, more := range [][]byte{{0}, {1}, {255}, {0, 0}, b, make([]byte, 1000)} {
			says(t, "more behind", slices.Concat(b, more), api.ErrCommand)
		}
	}
	says(t, "no list", nil, api.ErrShort)
	says(t, "an empty list", []byte{}, api.ErrShort)
}

// P11.2: what ends too early is ErrShort, even where it may not be whatever comes; numbers of bytes count, even those that may not be.
func TestShortGoesFirst(t *testing.T) {
	head := func(kind, client, seq, length byte, rest ...[]byte) []byte {
		return slices.Concat([]byte{kind, client, 0, 0, 0, seq, length}, slices.Concat(rest...))
	}
	ids := make([]byte, 64)
	name := func(n int) []byte { return []byte(text(n)) }
	for _, x := range []struct {
		what string
		row  []byte
		err  api.Errno
	}{
		{"Kind 0 alone", []byte{0}, api.ErrShort},
		{"Kind 9 alone", []byte{9}, api.ErrShort},
		{"Client 0, and no more", []byte{1, 0}, api.ErrShort},
		{"Seq 0, and no more", []byte{1, 1, 0, 0, 0, 0}, api.ErrShort},
		{"six noughts", make([]byte, 6), api.ErrShort},
		{"seven noughts", make([]byte, 7), api.ErrShort},
		{"72 noughts", make([]byte, 72), api.ErrShort},
		{"73 noughts", make([]byte, 73), api.ErrCommand},
		{"74 noughts", make([]byte, 74), api.ErrCommand},
		{"Kind 9, cut off", head(9, 1, 1, 1, name(1), ids, []byte{0}), api.ErrShort},
		{"Kind 9", head(9, 1, 1, 1, name(1), ids, []byte{0, 0}), api.ErrCommand},
		{"Client 4, cut off", head(1, 4, 1, 1, name(1), ids, []byte{0}), api.ErrShort},
		{"Client 4", head(1, 4, 1, 1, name(1), ids, []byte{0, 0}), api.ErrCommand},
		{"Seq 0, cut off", head(1, 1, 0, 1, name(1), ids, []byte{0}), api.ErrShort},
		{"Seq 0", head(1, 1, 0, 1, name(1), ids, []byte{0, 0}), api.ErrCommand},
		{"a Branch of 25 bytes, cut off", head(1, 1, 1, 25, name(25), ids, []byte{0}), api.ErrShort},
		{"a Branch of 25 bytes", head(1, 1, 1, 25, name(25), ids, []byte{0, 0}), api.ErrCommand},
		{"a Branch of 24 bytes", head(1, 1, 1, 24, name(24), ids, []byte{0, 0}), api.OK},
		{"a Branch of 255 bytes, cut off", head(1, 1, 1, 255, name(255), ids, []byte{0}), api.ErrShort},
		{"a Branch of 255 bytes", head(1, 1, 1, 255, name(255), ids, []byte{0, 0}), api.ErrCommand},
		{"a Branch of 255 bytes, and one is there", head(1, 1, 1, 255, name(1), ids, []byte{0, 0}), api.ErrShort},
		{"a Branch of one byte more than is there", head(1, 1, 1, 3, name(2), ids, []byte{0, 0}), api.ErrShort},
		{"a Branch of one byte less than is there", head(1, 1, 1, 1, name(2), ids, []byte{0, 0}), api.ErrCommand},
		{"no Branch, and one byte is there", head(1, 1, 1, 0, name(1), ids, []byte{0, 0}), api.ErrCommand},
		{"no Branch", head(1, 1, 1, 0, ids, []byte{0, 0}), api.ErrCommand},
		{"a Branch with a blank, cut off", head(1, 1, 1, 3, []byte("a b"), ids, []byte{0}), api.ErrShort},
		{"a Branch with a blank", head(1, 1, 1, 3, []byte("a b"), ids, []byte{0, 0}), api.ErrCommand},
		{"one byte of a number of two", head(4, 1, 1, 0, ids, []byte{0}), api.ErrShort},
		{"Data of one byte more than is there", head(4, 1, 1, 0, ids, []byte{0, 3}, name(2)), api.ErrShort},
		{"Data of just as many as are there", head(4, 1, 1, 0, ids, []byte{0, 2}, name(2)), api.OK},
		{"Data of one byte less than is there", head(4, 1, 1, 0, ids, []byte{0, 1}, name(2)), api.ErrCommand},
		{"Data of 256 bytes more than are there", head(4, 1, 1, 0, ids, []byte{1, 2}, name(2)), api.ErrShort},
		{"Data of 256 bytes less than are there", head(4, 1, 1, 0, ids, []byte{0, 2}, name(258)), api.ErrCommand},
		{"no Data of a put", head(4, 1, 1, 0, ids, []byte{0, 0}), api.ErrCommand},
		{"no Data of a put, and a byte is there", head(4, 1, 1, 0, ids, []byte{0, 0, 1}), api.ErrCommand},
		{"Data of 800 bytes", head(4, 1, 1, 0, ids, []byte{3, 32}, name(800)), api.OK},
		{"Data of 801 bytes, cut off", head(4, 1, 1, 0, ids, []byte{3, 33}, name(800)), api.ErrShort},
		{"Data of 801 bytes", head(4, 1, 1, 0, ids, []byte{3, 33}, name(801)), api.ErrCommand},
		{"Data of 65535 bytes, cut off", head(4, 1, 1, 0, ids, []byte{255, 255}, name(65534)), api.ErrShort},
		{"Data of 65535 bytes", head(4, 1, 1, 0, ids, []byte{255, 255}, name(65535)), api.ErrCommand},
		{"Data of a read, cut off", head(1, 1, 1, 1, name(1), ids, []byte{0, 2}, name(1)), api.ErrShort},
		{"Data of a read", head(1, 1, 1, 1, name(1), ids, []byte{0, 2}, name(2)), api.ErrCommand},
		{"an Old of a read, cut off", head(1, 1, 1, 1, name(1), one[:], make([]byte, 32), []byte{0}), api.ErrShort},
		{"an Old of a read", head(1, 1, 1, 1, name(1), one[:], make([]byte, 32), []byte{0, 0}), api.ErrCommand},
		{"a command, and much more", append(modelBytes(read()), make([]byte, 1<<20)...), api.ErrCommand},
	} {
		says(t, x.what, x.row, x.err)
	}
}
