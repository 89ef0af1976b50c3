package conf_test

import (
	"bytes"
	"math"
	"slices"
	"testing"

	"confluence/api"
	"confluence/conf"
)

// strange are numbers that are no servers, though some have such a lowest byte.
var strange = []int{math.MinInt, -1 << 32, -255, -254, -1, 0, 6, 7, 9, 255, 256, 257, 258, 261, 1<<16 + 1, 1<<32 + 1, 1<<32 + 5, math.MaxInt}

// around are numbers from one below the first server to two above the last one, and strange ones.
var around = append([]int{1, 2, 3, 4, 5, 6, 7}, strange...)

// room is what stands behind the end of numbers that are handed in.
var room = []int{1, 2, 3, 4, 5, 77}

// handed are numbers as they are handed in: with room behind their end.
func handed(l []int) []int {
	return slices.Concat(l, room)[:len(l)]
}

// untouched fails the test if numbers that were handed in, or the room behind them, are not as they were.
func untouched(t *testing.T, what string, in, was []int) {
	t.Helper()
	if whole := in[:len(in)+len(room)]; !slices.Equal(whole, slices.Concat(was, room)) {
		t.Errorf("%s: what was handed in, with the room behind it, is %v, and was %v", what, whole, was)
	}
}

// wipe writes over a list, and over the room behind its end.
func wipe[N int | byte](l []N) {
	whole := l[:cap(l)]
	for i := range whole {
		whole[i] = 99
	}
}

// is fails the test if an error is another one.
func is(t *testing.T, what string, got, want api.Errno) {
	t.Helper()
	if got != want && !t.Failed() { // one fault is enough to read
		t.Errorf("%s: error %d, not %d", what, got, want)
	}
}

// isSet fails the test if members and an error are not those of the model; beside an error there are no members.
func isSet(t *testing.T, what string, got api.Conf, err api.Errno, set int, want api.Errno) {
	t.Helper()
	if (!slices.Equal(got.Members, listed(set)) || err != want) && !t.Failed() {
		t.Errorf("%s: %v, error %d, not %v, %d", what, got.Members, err, listed(set), want)
	}
}

// asModel asks all calls of members alone, and of members and a number, and holds the answers against the model; what is handed in stays, and is not kept.
func asModel(t *testing.T, c api.Conf) {
	t.Helper()
	if t.Failed() {
		return // one fault is enough to read
	}
	set := modelSet(c)
	var bytesOf []byte
	err := api.ErrConf
	if set != 0 {
		bytesOf, err = modelBytes(c.Members...), api.OK
	}
	// The second time what was answered first has been written over.
	for range 2 {
		in := of(handed(c.Members)...)
		is(t, "Check", conf.Check(in), err)
		b, e := conf.Encode(in)
		is(t, "Encode", e, err)
		if !conf.Same(in, c) || !conf.Same(c, in) {
			t.Errorf("%v is not the same as itself", c.Members)
		}
		untouched(t, "Check, Encode, Same", in.Members, c.Members)
		wipe(in.Members)
		if !bytes.Equal(b, bytesOf) {
			t.Errorf("Encode of %v: % x, not % x", c.Members, b, bytesOf)
		}
		wipe(b)
	}
	for _, member := range around {
		asHas(t, c, member)
		asChange(t, "Add", conf.Add, modelAdd, c, member)
		asChange(t, "Drop", conf.Drop, modelDrop, c, member)
	}
	if set != 0 {
		asDecode(t, bytesOf)
	}
	if t.Failed() {
		t.Logf("of the members %v", c.Members)
	}
}

// asHas holds what Has answers against the model.
func asHas(t *testing.T, c api.Conf, member int) {
	t.Helper()
	in := of(handed(c.Members)...)
	want := modelSet(c)&bit(member) != 0
	if got := conf.Has(in, member); got != want {
		t.Errorf("Has(%v, %d): %v, not %v", c.Members, member, got, want)
	}
	untouched(t, "Has", in.Members, c.Members)
}

// asChange holds what Add or Drop answers against the model; what is handed in stays, and is not kept, and what is answered is new.
func asChange(t *testing.T, what string, do func(api.Conf, int) (api.Conf, api.Errno), model func(int, int) (int, api.Errno), c api.Conf, member int) {
	t.Helper()
	set, want := model(modelSet(c), member)
	in := of(handed(c.Members)...)
	got, err := do(in, member)
	isSet(t, what, got, err, set, want)
	untouched(t, what, in.Members, c.Members)
	wipe(got.Members)
	untouched(t, what+", whose answer was written over", in.Members, c.Members)
	got, err = do(in, member)
	isSet(t, what+" again", got, err, set, want)
	wipe(in.Members)
	isSet(t, what+", what was handed in being written over", got, err, set, want)
}

// asMajority holds what Majority answers against the model.
func asMajority(t *testing.T, c api.Conf, numbers []int) {
	t.Helper()
	if t.Failed() {
		return // one fault is enough to read
	}
	in, l := of(handed(c.Members)...), handed(numbers)
	want := modelMajority(modelSet(c), numbers)
	if got := conf.Majority(in, l); got != want {
		t.Errorf("Majority(%v, %v): %v, not %v", c.Members, numbers, got, want)
	}
	untouched(t, "Majority, members", in.Members, c.Members)
	untouched(t, "Majority, the set", l, numbers)
}

// asAgreed holds what Agreed answers against the model.
func asAgreed(t *testing.T, c api.Conf, l []api.Match) {
	t.Helper()
	if t.Failed() {
		return // one fault is enough to read
	}
	behind := []api.Match{{Member: 1, Index: math.MaxUint64}, {Member: 2, Index: math.MaxUint64}, {Member: 3, Index: math.MaxUint64}}
	in, whole := of(handed(c.Members)...), slices.Concat(l, behind)
	want := modelAgreed(modelSet(c), l)
	if got := conf.Agreed(in, whole[:len(l)]); got != want {
		t.Errorf("Agreed(%v, %v): %d, not %d", c.Members, l, got, want)
	}
	untouched(t, "Agreed, members", in.Members, c.Members)
	if !slices.Equal(whole, slices.Concat(l, behind)) {
		t.Errorf("Agreed has changed what was handed in, or the room behind it: %v, and was %v", whole, l)
	}
}

// asStep holds what Step answers against the model.
func asStep(t *testing.T, a, b api.Conf) {
	t.Helper()
	if t.Failed() {
		return // one fault is enough to read
	}
	one, other := of(handed(a.Members)...), of(handed(b.Members)...)
	if got, want := conf.Step(one, other), modelStep(modelSet(a), modelSet(b)); got != want {
		t.Errorf("Step(%v, %v): error %d, not %d", a.Members, b.Members, got, want)
	}
	untouched(t, "Step, from", one.Members, a.Members)
	untouched(t, "Step, to", other.Members, b.Members)
}

// asDecode holds what Decode answers against the model; the bytes stay, and are not kept, and Encode leads back.
func asDecode(t *testing.T, b []byte) {
	t.Helper()
	if t.Failed() {
		return // one fault is enough to read
	}
	behind := []byte{1, 2, 3, 4, 5, 6}
	set, want := modelDecode(b)
	whole := slices.Concat(b, behind)
	got, err := conf.Decode(whole[:len(b)])
	isSet(t, "Decode", got, err, set, want)
	if !bytes.Equal(whole, slices.Concat(b, behind)) {
		t.Error("Decode has changed the bytes, or the room behind them")
	}
	wipe(whole)
	isSet(t, "Decode, the bytes being written over", got, err, set, want)
	if err == api.OK {
		again, e := conf.Encode(got)
		if e != api.OK || !bytes.Equal(again, b) {
			t.Errorf("Encode of Decode of % x: % x, error %d", b, again, e)
		}
		wipe(got.Members)
		other, e := conf.Decode(b)
		isSet(t, "Decode again", other, e, set, api.OK)
	}
	if t.Failed() {
		t.Logf("of the bytes % x", b[:min(len(b), 40)])
	}
}

// lists are all lists of at most n numbers of those.
func lists[N any](n int, of ...N) [][]N {
	all := [][]N{nil}
	for from := 0; n > 0; n-- {
		upTo := len(all)
		for ; from < upTo; from++ {
			for _, x := range of {
				all = append(all, append(slices.Clip(all[from]), x))
			}
		}
	}
	return all
}

// P14.2 to P14.4: the chapter's examples.
func TestExamples(t *testing.T) {
	if !conf.Majority(of(1, 2, 3), []int{1, 3}) {
		t.Error("1 3 is no majority of 1 2 3")
	}
	if conf.Majority(of(1, 2, 3), []int{1, 1, 9}) {
		t.Error("1 1 9 is a majority of 1 2 3")
	}
	if conf.Majority(of(1, 2, 3, 4), []int{1, 2}) {
		t.Error("1 2 is a majority of 1 2 3 4")
	}
	if n := conf.Agreed(of(1, 2, 3), []api.Match{{Member: 1, Index: 5}, {Member: 2, Index: 3}}); n != 3 {
		t.Error("Agreed of 5 3:", n)
	}
	if n := conf.Agreed(of(1, 2, 3), []api.Match{{Member: 1, Index: 5}, {Member: 2, Index: 3}, {Member: 3, Index: 4}}); n != 4 {
		t.Error("Agreed of 5 3 4:", n)
	}
	c, err := conf.Add(of(1, 2), 3)
	isSet(t, "Add(1 2, 3)", c, err, 7, api.OK)
	c, err = conf.Add(of(1, 2), 2)
	isSet(t, "Add(1 2, 2)", c, err, 0, api.ErrThere)
	c, err = conf.Add(of(1, 2), 6)
	isSet(t, "Add(1 2, 6)", c, err, 0, api.ErrArg)
	c, err = conf.Drop(of(1), 1)
	isSet(t, "Drop(1, 1)", c, err, 0, api.ErrConf)
	is(t, "Step(1 2 3, 1 2)", conf.Step(of(1, 2, 3), of(1, 2)), api.OK)
	is(t, "Step(1 2 3, 1 2 4)", conf.Step(of(1, 2, 3), of(1, 2, 4)), api.ErrStep)
	b, err := conf.Encode(of(1, 3))
	if err != api.OK || !bytes.Equal(b, []byte{2, 1, 3}) {
		t.Errorf("Encode(1 3): % x, error %d", b, err)
	}
	c, err = conf.Decode([]byte{2, 1})
	isSet(t, "Decode(02 01)", c, err, 0, api.ErrShort)
	c, err = conf.Decode([]byte{2, 3, 1})
	isSet(t, "Decode(02 03 01)", c, err, 0, api.ErrConf)
}

// P14.1, P14.3, P14.4: Check, Has, Add, Drop and Encode of members that may be, and of those that may not: none, too many, out of 1 to 5, twice, falling.
func TestWhoMayBe(t *testing.T) {
	for set := 1; set <= full; set++ {
		is(t, "members that may be", conf.Check(ofSet(set)), api.OK)
		asModel(t, ofSet(set))
	}
	for _, l := range [][]int{nil, {}, {0}, {6}, {-1}, {2, 1}, {1, 1}, {5, 5}, {1, 2, 2}, {1, 3, 2}, {2, 3, 1}, {0, 1}, {1, 6}, {1, 2, 3, 4, 6},
		{1, 2, 3, 4, 5, 5}, {1, 2, 3, 4, 5, 6}, {0, 1, 2, 3, 4, 5}, {5, 4, 3, 2, 1}, {1, 5, 4}, {1, 2, 3, 5, 4}, {-5, -4}} {
		is(t, "members that may not be", conf.Check(of(l...)), api.ErrConf)
		asModel(t, of(l...))
	}
	for _, n := range strange {
		for set := range full + 1 {
			members := listed(set)
			for i := range len(members) + 1 {
				c := of(slices.Insert(slices.Clone(members), i, n)...)
				is(t, "with a number that is no server", conf.Check(c), api.ErrConf)
				asModel(t, c)
			}
		}
	}
	for _, l := range lists(4, 0, 1, 2, 3, 5, 6) {
		asModel(t, of(l...))
	}
	for _, l := range lists(6, 0, 1, 2, 3, 4, 5, 6) {
		want := api.ErrConf
		if modelSet(of(l...)) != 0 {
			want = api.OK
		}
		is(t, "Check", conf.Check(of(l...)), want)
	}
}

// P14.1: Same of all members, and of lists that may not be: what stands in both, in its order.
func TestSame(t *testing.T) {
	all := append(lists(3, 0, 1, 2, 6), []int{})
	for set := 1; set <= full; set++ {
		all = append(all, listed(set))
	}
	for _, a := range all {
		for _, b := range all {
			one, other := of(handed(a)...), of(handed(b)...)
			if got, want := conf.Same(one, other), slices.Equal(a, b); got != want {
				t.Errorf("Same(%v, %v): %v", a, b, got)
			}
			untouched(t, "Same", one.Members, a)
			untouched(t, "Same", other.Members, b)
		}
	}
	if !conf.Same(api.Conf{}, of([]int{}...)) || !conf.Same(of([]int{}...), api.Conf{}) {
		t.Error("nil and empty are not the same")
	}
}

// P14.2: Majority of all members and sets: in whatever order, however often, and beside others.
func TestMajority(t *testing.T) {
	sets := append(lists(4, 1, 2, 3, 4, 5, 6), lists(2, strange...)...)
	for set := range full + 1 {
		l := listed(set)
		sets = append(sets, l, slices.Repeat(l, 3), slices.Concat(strange, l), slices.Concat(l, strange))
		slices.Reverse(l)
		sets = append(sets, l)
	}
	for set := 1; set <= full; set++ {
		for _, numbers := range sets {
			asMajority(t, ofSet(set), numbers)
		}
		if conf.Majority(ofSet(set), nil) || conf.Majority(ofSet(set), []int{}) {
			t.Errorf("nothing is a majority of %v", listed(set))
		}
	}
	for _, l := range lists(3, 0, 1, 2, 6) {
		for _, numbers := range [][]int{nil, {1}, {2}, {0}, {1, 2}, {0, 1, 2, 3, 4, 5, 6}, l} {
			asMajority(t, of(l...), numbers)
		}
	}
}

// matches are indices of the servers from 1 on; what is below 0 is not told.
func matches(indices []int) []api.Match {
	var l []api.Match
	for i, index := range indices {
		if index >= 0 {
			l = append(l, api.Match{Member: i + 1, Index: uint64(index)})
		}
	}
	return l
}

// P14.2: Agreed of all members, whatever index is told of each, or none.
func TestAgreed(t *testing.T) {
	for _, indices := range lists(5, -1, 0, 1, 2, 7) {
		l := matches(indices)
		back := slices.Clone(l)
		slices.Reverse(back)
		for set := 1; set <= full; set++ {
			asAgreed(t, ofSet(set), l)
			asAgreed(t, ofSet(set), back)
		}
	}
	for set := 1; set <= full; set++ {
		if conf.Agreed(ofSet(set), nil) != 0 || conf.Agreed(ofSet(set), []api.Match{}) != 0 {
			t.Errorf("Agreed of %v and nothing is not 0", listed(set))
		}
	}
}

// P14.2: Agreed of members of which l tells twice, of others, and of great indices.
func TestAgreedOddly(t *testing.T) {
	top := uint64(math.MaxUint64)
	var row []api.Match
	for member := 1; member <= 3; member++ {
		for _, index := range []uint64{0, 4, 9} {
			row = append(row, api.Match{Member: member, Index: index})
		}
	}
	var others []api.Match
	for _, n := range strange {
		others = append(others, api.Match{Member: n, Index: top})
	}
	for _, l := range lists(4, row...) {
		for _, set := range []int{1, 2, 3, 5, 6, 7, 15, 24, full} {
			asAgreed(t, ofSet(set), l)
		}
		asAgreed(t, of(1, 2, 3), slices.Concat(others, l))
		asAgreed(t, of(1, 2, 3), slices.Concat(l, others))
	}
	for _, x := range []struct {
		c    api.Conf
		l    []api.Match
		want uint64
	}{
		{of(1), []api.Match{{Member: 1, Index: top}}, top},
		{of(1, 2), []api.Match{{Member: 1, Index: top}, {Member: 2, Index: top - 1}}, top - 1},
		{of(1, 2), []api.Match{{Member: 1, Index: top}}, 0},
		{of(1, 2), []api.Match{{Member: 1, Index: 1 << 63}, {Member: 2, Index: 1}}, 1},
		{of(1, 2, 3), []api.Match{{Member: 1, Index: 1 << 63}, {Member: 2, Index: 1<<63 - 1}}, 1<<63 - 1},
		{of(1, 2, 3), []api.Match{{Member: 1, Index: 5}, {Member: 1, Index: 3}, {Member: 2, Index: 2}, {Member: 2, Index: 4}}, 4},
		{of(1, 2, 3), []api.Match{{Member: 1, Index: 5}, {Member: 1, Index: 5}}, 0},
		{of(1, 2, 3), []api.Match{{Member: 1, Index: 5}, {Member: 4, Index: 5}, {Member: 257, Index: 5}}, 0},
		{of(1, 2, 3, 4), []api.Match{{Member: 1, Index: 5}, {Member: 2, Index: 5}, {Member: 3, Index: 2}, {Member: 4, Index: 1}}, 2},
		{of(1, 2, 3, 4, 5), []api.Match{{Member: 1, Index: 5}, {Member: 2, Index: 4}, {Member: 3, Index: 3}, {Member: 4, Index: 2}, {Member: 5, Index: 1}}, 3},
		{of(2, 1), []api.Match{{Member: 1, Index: 5}, {Member: 2, Index: 5}}, 0},
		{of(1, 1), []api.Match{{Member: 1, Index: 5}}, 0},
		{of(), []api.Match{{Member: 1, Index: 5}}, 0},
		{of(6), []api.Match{{Member: 6, Index: 5}}, 0},
		{of(0), []api.Match{{Member: 0, Index: 5}}, 0},
	} {
		if got := conf.Agreed(x.c, x.l); got != x.want {
			t.Errorf("Agreed(%v, %v): %d, not %d", x.c.Members, x.l, got, x.want)
		}
		asAgreed(t, x.c, x.l)
	}
}

// P14.3: of several errors the first one: members that may not be ahead of all else, and a number that is none of 1 to 5 ahead of one that is there.
func TestFirstError(t *testing.T) {
	for _, c := range []api.Conf{of(), of(6), of(2, 1), of(1, 1), of(0, 1)} {
		for _, member := range around {
			_, err := conf.Add(c, member)
			is(t, "Add to members that may not be", err, api.ErrConf)
			_, err = conf.Drop(c, member)
			is(t, "Drop from members that may not be", err, api.ErrConf)
		}
	}
	for _, member := range strange {
		_, err := conf.Add(of(1, 2, 3, 4, 5), member)
		is(t, "Add of no server to all", err, api.ErrArg)
		_, err = conf.Drop(of(1), member)
		is(t, "Drop of no server from one", err, api.ErrNone)
	}
	for member := 1; member <= 5; member++ {
		_, err := conf.Add(of(1, 2, 3, 4, 5), member)
		is(t, "Add to all", err, api.ErrThere)
		_, err = conf.Drop(of(member), member)
		is(t, "Drop of the only one", err, api.ErrConf)
		_, err = conf.Drop(of(member), member%5+1)
		is(t, "Drop of another one than the only one", err, api.ErrNone)
	}
}

// P14.3: Step from all members to all others, and of those that may not be.
func TestStep(t *testing.T) {
	for a := 1; a <= full; a++ {
		for b := 1; b <= full; b++ {
			asStep(t, ofSet(a), ofSet(b))
		}
	}
	for _, l := range [][]int{nil, {}, {0}, {6}, {2, 1}, {1, 1}, {1, 2, 2}, {0, 1}, {1, 6}, {1, 2, 3, 4, 5, 6}} {
		is(t, "Step from what may not be to itself", conf.Step(of(l...), of(l...)), api.ErrConf)
		for set := 1; set <= full; set++ {
			is(t, "Step from what may not be", conf.Step(of(l...), ofSet(set)), api.ErrConf)
			is(t, "Step to what may not be", conf.Step(ofSet(set), of(l...)), api.ErrConf)
			asStep(t, of(l...), ofSet(set))
			asStep(t, ofSet(set), of(l...))
		}
	}
}

// P14.4: Decode of all short bytes, of each count, and of what is cut off, has something behind, or is another number.
func TestDecode(t *testing.T) {
	for _, b := range lists(6, 0, 1, 2, 3, 4, 5, 6, 255) {
		row := make([]byte, len(b))
		for i, n := range b {
			row[i] = byte(n)
		}
		asDecode(t, row)
	}
	for set := 1; set <= full; set++ {
		whole := modelBytes(listed(set)...)
		for n := range whole {
			_, err := conf.Decode(whole[:n])
			is(t, "cut off", err, api.ErrShort)
			asDecode(t, whole[:n])
		}
		for n := range 256 {
			_, err := conf.Decode(append(slices.Clone(whole), byte(n)))
			is(t, "a byte behind", err, api.ErrConf)
			for i := range whole {
				row := slices.Clone(whole)
				row[i] = byte(n)
				asDecode(t, row)
				asDecode(t, append(row, 5))
			}
		}
		asDecode(t, slices.Concat(whole, whole))
	}
	for n := range 256 {
		row := append([]byte{byte(n)}, bytes.Repeat([]byte{1}, n)...)
		asDecode(t, row)
		asDecode(t, row[:len(row)-1])
		asDecode(t, append(row, 1))
	}
	asDecode(t, modelBytes(1, 2, 3, 4, 5, 5))
	asDecode(t, modelBytes(1, 2, 3, 4, 5, 6))
	asDecode(t, []byte{5, 1, 2, 3, 4, 5, 0})
}

// P14.4: no number that is no byte is written as one.
func TestEncodeOfNoBytes(t *testing.T) {
	for _, c := range []api.Conf{of(257), of(1, 258), of(-255), of(1, 2, 1<<32+3), of(slices.Repeat([]int{1}, 257)...)} {
		b, err := conf.Encode(c)
		is(t, "Encode", err, api.ErrConf)
		if len(b) != 0 {
			t.Errorf("Encode of %v: % x beside an error", c.Members, b)
		}
	}
}

// P14.5: two majorities of the same members, or of members one step apart, have a member in common.
func TestMajoritiesMeet(t *testing.T) {
	common := func(a, b int) bool { // whether of all two majorities of both some member is in both
		for x := range full + 1 {
			for y := range full + 1 {
				if conf.Majority(ofSet(a), listed(x)) && conf.Majority(ofSet(b), listed(y)) && x&a&y&b == 0 {
					return false
				}
			}
		}
		return true
	}
	for a := 1; a <= full; a++ {
		for b := 1; b <= full; b++ {
			if conf.Step(ofSet(a), ofSet(b)) == api.OK && !common(a, b) {
				t.Errorf("majorities of %v and of %v have none in common", listed(a), listed(b))
			}
		}
	}
	if common(3, 12) || common(1, 7) {
		t.Error("the test sees no majorities that do not meet")
	}
}

// having are the servers of which l tells an index, or a greater one.
func having(l []api.Match, index uint64) []int {
	var list []int
	for _, m := range l {
		if m.Index >= index {
			list = append(list, m.Member)
		}
	}
	return list
}

// P14.5: what Agreed tells a majority has, nothing greater has one, and it does not fall when an index rises.
func TestAgreedIsOfAMajority(t *testing.T) {
	for _, indices := range lists(5, 0, 1, 2, 3) {
		if len(indices) < 5 {
			continue
		}
		l := matches(indices)
		for set := 1; set <= full; set++ {
			c := ofSet(set)
			n := conf.Agreed(c, l)
			if !conf.Majority(c, having(l, n)) || conf.Majority(c, having(l, n+1)) {
				t.Errorf("Agreed(%v, %v): %d", c.Members, l, n)
			}
			for i := range l {
				more := slices.Clone(l)
				more[i].Index++
				if conf.Agreed(c, more) < n || conf.Agreed(c, append(more, l[i])) < n {
					t.Errorf("Agreed(%v, %v) falls when an index rises", c.Members, l)
				}
			}
		}
	}
}

// P14.5: Add and Drop of one lead back, each is one step, and Decode of Encode is the same.
func TestLeadBack(t *testing.T) {
	for set := 1; set <= full; set++ {
		c := ofSet(set)
		b, _ := conf.Encode(c)
		again, err := conf.Decode(b)
		if err != api.OK || !conf.Same(again, c) {
			t.Errorf("Decode of Encode of %v: %v, error %d", c.Members, again.Members, err)
		}
		for member := 1; member <= 5; member++ {
			there, back := conf.Add, conf.Drop
			if conf.Has(c, member) {
				there, back = back, there
			}
			if set == bit(member) {
				continue // the only one can't go
			}
			other, err := there(c, member)
			is(t, "Add or Drop", err, api.OK)
			is(t, "what Add or Drop tells", conf.Check(other), api.OK)
			is(t, "a step there", conf.Step(c, other), api.OK)
			is(t, "a step back", conf.Step(other, c), api.OK)
			same, err := back(other, member)
			if err != api.OK || !conf.Same(same, c) || conf.Same(other, c) {
				t.Errorf("there and back of %v, by %d: %v, error %d", c.Members, member, same.Members, err)
			}
		}
	}
}
