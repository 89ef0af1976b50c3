package log_test

import (
	"bytes"
	"math"
	"slices"
	"strconv"
	"testing"

	"confluence/api"
	"confluence/log"
)

// last is the greatest index of an entry, and most the greatest number.
const (
	last uint64 = math.MaxUint64 - 1
	most uint64 = math.MaxUint64
)

// at is a place.
func at(index, term uint64) api.At {
	return api.At{Index: index, Term: term}
}

// row are entries of nothing, of those Terms.
func row(terms ...uint64) []api.Entry {
	var out []api.Entry
	for _, term := range terms {
		out = append(out, api.Entry{Term: term, Kind: api.EntNone})
	}
	return out
}

// level are n entries of one Term.
func level(n int, term uint64) []api.Entry {
	return row(slices.Repeat([]uint64{term}, n)...)
}

// of is a log with a Base, and entries of those Terms, with Data that tells them apart.
func of(base api.At, terms ...uint64) api.Log {
	return api.Log{Base: base, Entries: tagged('l', terms...)}
}

// the chapter's log.
func example() api.Log {
	return api.Log{Entries: row(1, 1, 2)}
}

// room is what stands behind the end of bytes that are handed in, and behind is what stands there of entries.
var room = bytes.Repeat([]byte{0xee}, 5)

func behind() []api.Entry {
	return []api.Entry{{Term: 77, Kind: 7, Data: []byte{7}}, {Term: 78, Kind: 8, Data: []byte{8}}}
}

// handed are entries as they are handed in: with room behind the end of each list.
func handed(entries []api.Entry) []api.Entry {
	out := slices.Concat(entries, behind())[:len(entries)]
	for i, e := range out {
		out[i].Data = slices.Concat(e.Data, room)[:len(e.Data)]
	}
	return out
}

// untouched fails the test if entries that are handed in, or the room behind them, are not as they were.
func untouched(t *testing.T, what string, in, were []api.Entry) {
	t.Helper()
	if !alike(in, were) || !alike(in[len(in):len(in)+len(behind())], behind()) {
		t.Errorf("%s: what was handed in has changed: %v, and was %v", what, in, were)
		return
	}
	for _, e := range in {
		if n := len(e.Data); !bytes.Equal(e.Data[n:n+len(room)], room) {
			t.Errorf("%s: the room behind Data has changed", what)
		}
	}
}

// overwrite fills bytes, and the room behind their end.
func overwrite(b []byte) {
	whole := b[:cap(b)]
	for i := range whole {
		whole[i] = 0xaa
	}
}

// wipe writes over entries, and over what they have.
func wipe(entries []api.Entry) {
	for i, e := range entries {
		overwrite(e.Data)
		entries[i] = api.Entry{Term: 99, Kind: 9}
	}
}

// apart fails the test if a call changes what it is handed, or shares any of it with the entries that it answers, or these among themselves.
func apart(t *testing.T, what string, l api.Log, entries []api.Entry, call func(l api.Log, entries []api.Entry) []api.Entry) {
	t.Helper()
	if t.Failed() {
		return // one fault is enough to read
	}
	in, more := handed(l.Entries), handed(entries)
	got := call(api.Log{Base: l.Base, Entries: in}, more)
	was := plain(got)
	untouched(t, what, in, l.Entries)
	untouched(t, what, more, entries)
	wipe(in)
	wipe(more)
	if !alike(got, was) {
		t.Errorf("%s: has kept what was handed in", what)
	}
	in, more = handed(l.Entries), handed(entries)
	got = call(api.Log{Base: l.Base, Entries: in}, more)
	if !alike(got, was) {
		t.Errorf("%s: the second time %v, not %v", what, got, was)
	}
	for i, e := range got {
		overwrite(e.Data)
		if !alike(got[i+1:], was[i+1:]) {
			t.Fatalf("%s: the Data of two entries is one", what)
		}
	}
	wipe(got[:cap(got)])
	untouched(t, what+", answered", in, l.Entries)
	untouched(t, what+", answered", more, entries)
}

// is fails the test if an error is another one.
func is(t *testing.T, what string, got, want api.Errno) {
	t.Helper()
	if got != want && !t.Failed() { // one fault is enough to read
		t.Errorf("%s: error %d, not %d", what, got, want)
	}
}

// splices holds Splice against the model, and against what follows; it answers the model's error.
func splices(t *testing.T, what string, l api.Log, prev api.At, entries []api.Entry) api.Errno {
	t.Helper()
	what += ": Splice"
	want, end, err := modelSplice(l, prev, entries)
	got, index, e := log.Splice(l, prev, entries)
	if e != err || index != end || !same(got, want) {
		t.Errorf("%s of %v, %v, %v: %v, %d, error %d, not %v, %d, %d", what, l, prev, entries, got, index, e, want, end, err)
	}
	apart(t, what, l, entries, func(l api.Log, entries []api.Entry) []api.Entry {
		got, _, _ := log.Splice(l, prev, entries)
		return got.Entries
	})
	if err != api.OK || t.Failed() {
		return err
	}
	is(t, what+": Check of what comes", log.Check(got, most), api.OK)
	for i, e := range entries {
		if place := at(prev.Index+uint64(i)+1, e.Term); place.Index > l.Base.Index && !log.Has(got, place) {
			t.Errorf("%s of %v, %v, %v: %v has not %v", what, l, prev, entries, got, place)
		}
	}
	for index, term := range modelPlaces(l) {
		if index <= prev.Index && !log.Has(got, at(index, term)) {
			t.Errorf("%s of %v, %v, %v: %v no longer has %d", what, l, prev, entries, got, index)
		}
	}
	again, index, e := log.Splice(got, prev, entries)
	if e != api.OK || index != end || !same(again, got) {
		t.Errorf("%s of %v, %v, %v, once more: %v, %d, error %d, not %v, %d", what, l, prev, entries, again, index, e, got, end)
	}
	return err
}

// appends holds Append against the model, and against what follows; it answers the model's error.
func appends(t *testing.T, what string, l api.Log, e api.Entry) api.Errno {
	t.Helper()
	what += ": Append"
	want, place, err := modelAppend(l, e)
	got, own, fault := log.Append(l, e)
	if fault != err || own != place || !same(got, want) {
		t.Errorf("%s of %v, %v: %v, %v, error %d, not %v, %v, %d", what, l, e, got, own, fault, want, place, err)
	}
	apart(t, what, l, []api.Entry{e}, func(l api.Log, entries []api.Entry) []api.Entry {
		got, _, _ := log.Append(l, entries[0])
		return got.Entries
	})
	if err == api.OK {
		is(t, what+": Check of what comes", log.Check(got, most), api.OK)
		if log.Last(got) != place || !log.Has(got, place) {
			t.Errorf("%s of %v, %v: %v has not %v", what, l, e, got, place)
		}
	}
	return err
}

// froms holds From against the model; it answers the model's error.
func froms(t *testing.T, what string, l api.Log, index uint64, n int) api.Errno {
	t.Helper()
	what += ": From"
	want, entries, err := modelFrom(l, index, n)
	place, got, e := log.From(l, index, n)
	if e != err || place != want || !alike(got, entries) {
		t.Errorf("%s of %v, %d, %d: %v, %v, error %d, not %v, %v, %d", what, l, index, n, place, got, e, want, entries, err)
	}
	apart(t, what, l, nil, func(l api.Log, _ []api.Entry) []api.Entry {
		_, got, _ := log.From(l, index, n)
		return got
	})
	return err
}

// compacts holds Compact against the model, and against what follows; it answers the model's error.
func compacts(t *testing.T, what string, l api.Log, index uint64) api.Errno {
	t.Helper()
	what += ": Compact"
	want, err := modelCompact(l, index)
	got, e := log.Compact(l, index)
	if e != err || !same(got, want) {
		t.Errorf("%s of %v, %d: %v, error %d, not %v, %d", what, l, index, got, e, want, err)
	}
	apart(t, what, l, nil, func(l api.Log, _ []api.Entry) []api.Entry {
		got, _ := log.Compact(l, index)
		return got.Entries
	})
	if err != api.OK {
		return err
	}
	is(t, what+": Check of what comes", log.Check(got, most), api.OK)
	for own, term := range modelPlaces(l) {
		if has := log.Has(got, at(own, term)); has != (own >= index) {
			t.Errorf("%s of %v, %d: whether %v has %d: %v", what, l, index, got, own, has)
		}
	}
	return err
}

// confs holds Conf against the model.
func confs(t *testing.T, what string, l api.Log, index uint64) {
	t.Helper()
	what += ": Conf"
	want, data, is := modelConf(l, index)
	own, got, there := log.Conf(l, index)
	if own != want || !bytes.Equal(got, data) || there != is {
		t.Errorf("%s of %v, %d: %d, % x, %v, not %d, % x, %v", what, l, index, own, got, there, want, data, is)
	}
	apart(t, what, l, nil, func(l api.Log, _ []api.Entry) []api.Entry {
		_, got, _ := log.Conf(l, index)
		return []api.Entry{{Data: got}}
	})
}

// alikes holds Same against the model, both ways round.
func alikes(t *testing.T, what string, a, b api.Log) {
	t.Helper()
	want := same(a, b)
	if log.Same(a, b) != want || log.Same(b, a) != want {
		t.Errorf("%s: Same of %v and %v: %v", what, a, b, !want)
	}
	if !log.Same(a, a) || !log.Same(api.Log{Base: a.Base, Entries: plain(a.Entries)}, a) {
		t.Errorf("%s: %v is not the same as itself", what, a)
	}
	apart(t, what+": Same", a, b.Entries, func(a api.Log, entries []api.Entry) []api.Entry {
		log.Same(a, api.Log{Base: b.Base, Entries: entries})
		return nil
	})
}

// asModel holds Check, Last, Term, Has and Conf of a log against the model, at all places about its ends.
func asModel(t *testing.T, what string, l api.Log) {
	t.Helper()
	if t.Failed() {
		return // one fault is enough to read
	}
	end := modelLast(l)
	tops := []uint64{0, 1, 2, end.Term - 1, end.Term, end.Term + 1, most}
	indices := []uint64{0, 1, 2, most, last}
	for i := range min(len(l.Entries), 20) + 5 {
		indices = append(indices, l.Base.Index+uint64(i)-2)
	}
	for _, top := range tops {
		is(t, what+": Check", log.Check(l, top), modelCheck(l, top))
	}
	if want := modelLast(l); modelMay(l) && log.Last(l) != want || !modelMay(l) && log.Last(l) != at(0, 0) {
		t.Errorf("%s: Last of %v: %v", what, l, log.Last(l))
	}
	for _, index := range indices {
		want, is := modelTerm(l, index)
		term, there := log.Term(l, index)
		if term != want || there != is {
			t.Errorf("%s: Term of %v, %d: %d, %v, not %d, %v", what, l, index, term, there, want, is)
		}
		for _, term := range []uint64{0, 1, 2, want - 1, want, want + 1, most} {
			if has := log.Has(l, at(index, term)); has != modelHas(l, at(index, term)) {
				t.Errorf("%s: Has of %v, %d, %d: %v", what, l, index, term, has)
			}
		}
		if !t.Failed() {
			confs(t, what, l, index)
		}
	}
	apart(t, what, l, nil, func(l api.Log, _ []api.Entry) []api.Entry {
		log.Check(l, 1)
		log.Last(l)
		log.Term(l, end.Index)
		log.Has(l, end)
		return nil
	})
}

// may and mayNot fail the test if a log may not be, or may: by the model too.
func may(t *testing.T, what string, l api.Log) {
	t.Helper()
	is(t, what, log.Check(l, most), api.OK)
	asModel(t, what, l)
}

func mayNot(t *testing.T, what string, l api.Log) {
	t.Helper()
	is(t, what, log.Check(l, most), api.ErrLog)
	is(t, what, log.Check(l, 0), api.ErrLog)
	if log.Last(l) != at(0, 0) {
		t.Errorf("%s: Last of what is no log: %v", what, log.Last(l))
	}
	asModel(t, what, l)
}

// P12.1 to P12.6: the chapter's examples.
func TestExamples(t *testing.T) {
	l := example()
	if got := log.Last(l); got != at(3, 2) {
		t.Errorf("Last: %v", got)
	}
	if term, there := log.Term(l, 2); term != 1 || !there {
		t.Errorf("Term(2): %d, %v", term, there)
	}
	if term, there := log.Term(l, 0); term != 0 || !there {
		t.Errorf("Term(0): %d, %v", term, there)
	}
	if log.Has(l, at(3, 1)) {
		t.Error("Has({3, 1})")
	}
	comes(t, "Splice({2, 1}, Terms 3)", l, at(2, 1), row(3), api.Log{Entries: row(1, 1, 3)}, 3)
	comes(t, "Splice({1, 1}, Terms 1 2)", l, at(1, 1), row(1, 2), l, 3)
	fails(t, "Splice({3, 1}, none)", l, at(3, 1), nil, api.ErrNone)
	n, err := log.Compact(l, 2)
	if err != api.OK || !same(n, api.Log{Base: at(2, 1), Entries: row(2)}) {
		t.Errorf("Compact(2): %v, error %d", n, err)
	}
	if term, there := log.Term(n, 1); term != 0 || there {
		t.Errorf("Term(1) of that: %d, %v", term, there)
	}
	if ahead, entries, err := log.From(n, 3, 9); ahead != at(2, 1) || !alike(entries, row(2)) || err != api.OK {
		t.Errorf("From(3, 9) of that: %v, %v, error %d", ahead, entries, err)
	}
	_, _, err = log.Append(l, row(1)[0])
	is(t, "Append(Term 1)", err, api.ErrArg)
	if n, place, err := log.Append(l, row(2)[0]); place != at(4, 2) || err != api.OK || !same(n, api.Log{Entries: row(1, 1, 2, 2)}) {
		t.Errorf("Append(Term 2): %v, %v, error %d", n, place, err)
	}
	if !log.Newer(at(1, 3), at(9, 2)) || log.Newer(at(1, 3), at(1, 3)) {
		t.Error("Newer")
	}
}

// comes and fails fail the test if Splice answers something else, by the model too.
func comes(t *testing.T, what string, l api.Log, prev api.At, entries []api.Entry, want api.Log, end uint64) {
	t.Helper()
	got, index, err := log.Splice(l, prev, entries)
	if err != api.OK || index != end || !same(got, want) {
		t.Errorf("%s: %v, %d, error %d, not %v, %d", what, got, index, err, want, end)
	}
	splices(t, what, l, prev, entries)
}

func fails(t *testing.T, what string, l api.Log, prev api.At, entries []api.Entry, want api.Errno) {
	t.Helper()
	_, _, err := log.Splice(l, prev, entries)
	is(t, what, err, want)
	splices(t, what, l, prev, entries)
}

// P12.1, P12.3, P12.4: entries that may be, and that may not: alone in a log, behind and ahead of others, put behind and spliced.
func TestEntries(t *testing.T) {
	for _, kind := range []int{math.MinInt, -1, 0, 1, 2, 3, 4, 5, 255, 256, 257, 258, 259, 1<<32 + 1, math.MaxInt} {
		for _, n := range []int{0, 1, 2, 800, 1023, 1024, 1025, 1026, 2048, 65536, 65537} {
			for _, term := range []uint64{0, 1, 2, most} {
				e := api.Entry{Term: term, Kind: kind, Data: bytes.Repeat([]byte{5}, n)}
				good := term > 0 && (kind == 1 && n == 0 || kind == 2 && n <= 1024 || kind == 3 && n <= 1024)
				what := "an entry of Kind " + strconv.Itoa(kind) + ", of " + strconv.Itoa(n) + " bytes, of Term " + strconv.FormatUint(term, 10)
				check, err := mayNot, api.ErrArg
				if good {
					check, err = may, api.OK
				}
				check(t, what, api.Log{Entries: []api.Entry{e}})
				check(t, what+", behind", api.Log{Entries: append(row(1, 1), e)})
				check(t, what+", ahead", api.Log{Entries: append([]api.Entry{e}, row(most)...)})
				is(t, what+", put behind", appends(t, what, api.Log{}, e), err)
				is(t, what+", spliced", splices(t, what, api.Log{}, at(0, 0), []api.Entry{e}), err)
				is(t, what+", spliced ahead", splices(t, what, of(at(4, 1)), at(1, 1), append([]api.Entry{e}, row(most)...)), err)
				is(t, what+", spliced behind", splices(t, what, example(), at(1, 1), append(row(1), e)), err)
			}
		}
	}
}

// P12.1: how many entries a log has: none, MaxLog and one more.
func TestLengthsOfLogs(t *testing.T) {
	for _, base := range []api.At{{}, at(1, 1), at(1000, 1)} {
		for n := range 40 {
			check := mayNot
			if n <= 16 {
				check = may
			}
			check(t, strconv.Itoa(n)+" entries", api.Log{Base: base, Entries: level(n, 1)})
		}
		for _, n := range []int{1 << 8, 1<<8 + 3, 1 << 16, 1<<16 + 3} {
			is(t, strconv.Itoa(n)+" entries", log.Check(api.Log{Base: base, Entries: level(n, 1)}, most), api.ErrLog)
		}
	}
	may(t, "the zero log", api.Log{})
	may(t, "no list", api.Log{Entries: []api.Entry{}})
}

// P12.1: Terms that rise, are level and fall, from Base.Term on.
func TestTermsOfLogs(t *testing.T) {
	for _, x := range []struct {
		base  api.At
		terms []uint64
		good  bool
	}{
		{at(0, 0), []uint64{1}, true},
		{at(0, 0), []uint64{0}, false},
		{at(0, 0), []uint64{0, 1}, false},
		{at(0, 0), []uint64{most}, true},
		{at(0, 0), []uint64{most, most}, true},
		{at(0, 0), []uint64{most, 1}, false},
		{at(0, 0), []uint64{most, most - 1}, false},
		{at(0, 0), []uint64{1, most}, true},
		{at(0, 0), []uint64{1, 2, 3, 9}, true},
		{at(0, 0), []uint64{1, 2, 2, 1}, false},
		{at(0, 0), []uint64{1, 3, 2, 3}, false},
		{at(0, 0), []uint64{2, 1}, false},
		{at(0, 0), []uint64{2, 1, 2, 3}, false},
		{at(5, 2), []uint64{2}, true},
		{at(5, 2), []uint64{3, 3}, true},
		{at(5, 2), []uint64{1}, false},
		{at(5, 2), []uint64{1, 2}, false},
		{at(5, 2), []uint64{0}, false},
		{at(5, most), []uint64{most}, true},
		{at(5, most), []uint64{most - 1}, false},
	} {
		check := mayNot
		if x.good {
			check = may
		}
		check(t, "Terms", of(x.base, x.terms...))
	}
}

// P12.1: a Base that is all zero, that has one number zero alone, and none.
func TestBases(t *testing.T) {
	for _, entries := range [][]uint64{nil, {1}, {3, 3}, {most}} {
		may(t, "no Base", of(at(0, 0), entries...))
		for _, n := range []uint64{1, 2, 3, 1 << 32, last - 2} {
			mayNot(t, "a Base without Term", of(at(n, 0), entries...))
			mayNot(t, "a Base without Index", of(at(0, n), entries...))
			if len(entries) == 0 || entries[0] >= n {
				may(t, "a Base", of(at(n, n), entries...))
			}
			may(t, "a Base of Term 1", of(at(n, 1), entries...))
		}
	}
}

// P12.1: Base.Index and the count of entries: 2^64 - 3, 2^64 - 2, 2^64 - 1, 2^64 and above.
func TestSumsOfIndices(t *testing.T) {
	for n := range uint64(17) {
		for off := range uint64(20) {
			index := last - 2 - n + off // below n it wraps round to no index that is great
			l := api.Log{Base: at(index, 1), Entries: level(int(n), 1)}
			if off <= 2 {
				may(t, "within 2^64 - 2", l)
			} else if index > 1<<63 {
				mayNot(t, "beyond 2^64 - 2", l)
			}
		}
	}
	may(t, "just there", api.Log{Base: at(last, 1)})
	mayNot(t, "one beyond", api.Log{Base: at(most, 1)})
	mayNot(t, "one beyond by an entry", api.Log{Base: at(last, 1), Entries: row(1)})
	mayNot(t, "2^64 - 1", api.Log{Base: at(most, most)})
	mayNot(t, "2^64", api.Log{Base: at(most, 1), Entries: row(1)})
	mayNot(t, "2^64 and 15", api.Log{Base: at(most, 1), Entries: level(16, 1)})
}

// P12.1: a top that is the last place's Term, one below and one above.
func TestTop(t *testing.T) {
	for _, x := range []struct {
		l    api.Log
		term uint64
	}{
		{api.Log{}, 0}, {of(at(4, 3)), 3}, {of(at(0, 0), 1), 1}, {of(at(4, 3), 3), 3}, {of(at(4, 3), 3, 7), 7}, {example(), 2}, {of(at(0, 0), 5, most), most}, {of(at(9, most)), most},
	} {
		is(t, "just the Term", log.Check(x.l, x.term), api.OK)
		is(t, "the greatest", log.Check(x.l, most), api.OK)
		if x.term > 0 {
			is(t, "one below", log.Check(x.l, x.term-1), api.ErrArg)
			is(t, "none", log.Check(x.l, 0), api.ErrArg)
		}
		if x.term < most {
			is(t, "one above", log.Check(x.l, x.term+1), api.OK)
		}
		asModel(t, "top", x.l)
	}
}

// P12.2: Last, Term and Has: of Base, of each entry, ahead of Base and behind the end, and with another Term.
func TestPlaces(t *testing.T) {
	l := of(at(5, 2), 2, 4, 4, 7)
	if got := log.Last(l); got != at(9, 7) {
		t.Errorf("Last: %v", got)
	}
	if got := log.Last(of(at(5, 2))); got != at(5, 2) {
		t.Errorf("Last of no entry: %v", got)
	}
	for index, want := range []uint64{5: 2, 6: 2, 7: 4, 8: 4, 9: 7, 10: 0, 11: 0} {
		term, there := log.Term(l, uint64(index))
		if term != want || there != (want > 0) {
			t.Errorf("Term(%d): %d, %v, not %d", index, term, there, want)
		}
		for term := range uint64(9) {
			if log.Has(l, at(uint64(index), term)) != (want > 0 && want == term) {
				t.Errorf("Has({%d, %d})", index, term)
			}
		}
	}
	if log.Has(l, at(0, 0)) || !log.Has(of(at(0, 0), 1), at(0, 0)) || !log.Has(api.Log{}, at(0, 0)) || log.Has(api.Log{}, at(0, 1)) || log.Has(api.Log{}, at(1, 0)) {
		t.Error("Has({0, 0})")
	}
	for _, l := range []api.Log{l, {}, example(), of(at(0, 0), 1, 2), of(at(1, 1)), of(at(last-3, 5), 5, 5, 6), of(at(last, 5))} {
		may(t, "places", l)
	}
}

// P12.2: Newer, of all pairs of these.
func TestNewer(t *testing.T) {
	numbers := []uint64{0, 1, 2, 3, 1<<32 - 1, 1 << 32, 1 << 63, last, most}
	var places []api.At // the less new ones first
	for _, term := range numbers {
		for _, index := range numbers {
			places = append(places, at(index, term))
		}
	}
	for i, a := range places {
		for j, b := range places {
			if log.Newer(a, b) != (i > j) {
				t.Errorf("Newer(%v, %v): %v", a, b, i <= j)
			}
		}
	}
}

// P12.3: what a Splice makes of a log, by hand.
func TestSplices(t *testing.T) {
	long := slices.Repeat([]uint64{2}, 14)
	for _, x := range []struct {
		what  string
		base  api.At
		terms []uint64
		prev  api.At
		more  []uint64
		kept  int // of the log's entries
		fresh int // of the entries: the last ones
		err   api.Errno
	}{
		{"onto nothing", at(0, 0), nil, at(0, 0), []uint64{1, 1, 2}, 0, 3, 0},
		{"nothing onto nothing", at(0, 0), nil, at(0, 0), nil, 0, 0, 0},
		{"just behind the end", at(0, 0), []uint64{1, 2}, at(2, 2), []uint64{2, 3}, 2, 2, 0},
		{"behind Base", at(3, 2), nil, at(3, 2), []uint64{2, 3}, 0, 2, 0},
		{"with a gap", at(0, 0), []uint64{1, 2}, at(3, 2), []uint64{2, 3}, 0, 0, api.ErrNone},
		{"behind Base with a gap", at(3, 2), nil, at(4, 2), []uint64{2, 3}, 0, 0, api.ErrNone},
		{"of no entry with a gap", at(0, 0), []uint64{1, 2}, at(3, 2), nil, 0, 0, api.ErrNone},
		{"that agrees in all", at(0, 0), []uint64{1, 2, 3}, at(0, 0), []uint64{1, 2, 3}, 3, 0, 0},
		{"that agrees in all, and is shorter", at(0, 0), []uint64{1, 2, 3}, at(0, 0), []uint64{1, 2}, 3, 0, 0},
		{"that agrees in one, within", at(0, 0), []uint64{1, 2, 3}, at(1, 1), []uint64{2}, 3, 0, 0},
		{"that agrees in none", at(0, 0), []uint64{1, 2, 3}, at(0, 0), []uint64{2, 2, 3}, 0, 3, 0},
		{"that agrees in none, and is shorter", at(0, 0), []uint64{1, 2, 3}, at(0, 0), []uint64{2}, 0, 1, 0},
		{"that agrees up to some place", at(0, 0), []uint64{1, 2, 3, 3}, at(0, 0), []uint64{1, 2, 4}, 2, 1, 0},
		{"that agrees up to some place, and again", at(0, 0), []uint64{1, 2, 5, 5}, at(0, 0), []uint64{1, 3, 5, 5}, 1, 3, 0},
		{"that agrees up to the end", at(0, 0), []uint64{1, 2}, at(1, 1), []uint64{2, 2, 5}, 2, 2, 0},
		{"with a lower Term than was there", at(0, 0), []uint64{1, 5, 5}, at(1, 1), []uint64{2}, 1, 1, 0},
		{"of no entry, behind one that is there", at(0, 0), []uint64{1, 2, 3}, at(1, 1), nil, 3, 0, 0},
		{"of no entry, behind the last one", at(0, 0), []uint64{1, 2, 3}, at(3, 3), nil, 3, 0, 0},
		{"of no entry, behind another Term", at(0, 0), []uint64{1, 2, 3}, at(3, 2), nil, 0, 0, api.ErrNone},
		{"behind another Term", at(0, 0), []uint64{1, 2, 3}, at(2, 3), []uint64{3}, 0, 0, api.ErrNone},
		{"behind Base of another Term", at(3, 2), []uint64{2}, at(3, 1), []uint64{2}, 0, 0, api.ErrNone},
		{"behind no Base, with a Term", at(0, 0), []uint64{1}, at(0, 1), []uint64{1}, 0, 0, api.ErrNone},
		{"of entries ahead of Base as a whole", at(5, 2), []uint64{2, 3}, at(1, 1), []uint64{1, 2}, 2, 0, 0},
		{"of entries ahead of Base as a whole, of greater Terms", at(5, 2), []uint64{2, 3}, at(1, 9), []uint64{9, 9}, 2, 0, 0},
		{"of entries up to Base", at(5, 2), []uint64{2, 3}, at(3, 1), []uint64{1, 2}, 2, 0, 0},
		{"of entries up to Base, of another Term there", at(5, 2), []uint64{2, 3}, at(3, 1), []uint64{1, 1}, 2, 0, 0},
		{"of no entry, ahead of Base", at(5, 2), []uint64{2, 3}, at(4, 1), nil, 2, 0, 0},
		{"of no entry, from the beginning on", at(5, 2), []uint64{2, 3}, at(0, 0), nil, 2, 0, 0},
		{"behind what may be no place, ahead of Base", at(5, 2), []uint64{2, 3}, at(0, 7), nil, 2, 0, 0},
		{"behind one without Term, ahead of Base", at(5, 2), []uint64{2, 3}, at(4, 0), []uint64{1, 2}, 2, 0, 0},
		{"of entries ahead of Base in part, that agree", at(5, 2), []uint64{2, 3}, at(3, 1), []uint64{1, 2, 2}, 2, 0, 0},
		{"of entries ahead of Base in part, that agree up to the end", at(5, 2), []uint64{2, 3}, at(3, 1), []uint64{1, 2, 2, 3, 3}, 2, 1, 0},
		{"of entries ahead of Base in part, that do not agree", at(5, 2), []uint64{2, 3}, at(3, 1), []uint64{1, 2, 3}, 0, 1, 0},
		{"of entries ahead of Base in part, with another Term at Base", at(5, 2), []uint64{2, 3}, at(3, 1), []uint64{1, 1, 2, 3, 4}, 2, 1, 0},
		{"of entries ahead of Base in part, onto none", at(5, 2), nil, at(3, 1), []uint64{1, 2, 2}, 0, 1, 0},
		{"whose Terms fall against Base", at(5, 2), []uint64{2, 3}, at(3, 1), []uint64{1, 1, 1}, 0, 0, api.ErrArg},
		{"whose Terms fall against Base, without entries", at(5, 2), nil, at(4, 1), []uint64{1, 1, 7}, 0, 0, api.ErrArg},
		{"whose Terms fall", at(0, 0), []uint64{1, 1}, at(1, 1), []uint64{2, 1}, 0, 0, api.ErrArg},
		{"whose Terms fall ahead of Base", at(5, 2), []uint64{2, 3}, at(1, 1), []uint64{2, 1}, 0, 0, api.ErrArg},
		{"whose first Term is below prev's", at(0, 0), []uint64{1, 2}, at(2, 2), []uint64{1, 3}, 0, 0, api.ErrArg},
		{"whose first Term is below prev's, which is not there", at(0, 0), []uint64{1, 2}, at(4, 2), []uint64{1}, 0, 0, api.ErrArg},
		{"whose first Term is below prev's, ahead of Base", at(5, 2), []uint64{2}, at(4, 3), []uint64{2, 2}, 0, 0, api.ErrArg},
		{"that comes to 16", at(0, 0), []uint64{1, 1, 5}, at(2, 1), long, 2, 14, 0},
		{"that comes to 16, one of which is there", at(0, 0), []uint64{1, 1, 2}, at(2, 1), long, 3, 13, 0},
		{"that comes to 17", at(0, 0), []uint64{1, 1, 1}, at(3, 1), long, 0, 0, api.ErrFull},
		{"that comes to 16 behind Base", at(5, 2), []uint64{2, 2, 3}, at(3, 1), slices.Repeat([]uint64{2}, 18), 2, 14, 0},
		{"that comes to 17 behind Base", at(5, 2), []uint64{2, 2, 3}, at(3, 1), slices.Repeat([]uint64{2}, 19), 0, 0, api.ErrFull},
		{"of 16 that are there", at(0, 0), slices.Repeat([]uint64{1}, 16), at(0, 0), slices.Repeat([]uint64{1}, 16), 16, 0, 0},
		{"of 16 others", at(0, 0), slices.Repeat([]uint64{1}, 16), at(0, 0), slices.Repeat([]uint64{2}, 16), 0, 16, 0},
		{"of 17", at(0, 0), nil, at(0, 0), slices.Repeat([]uint64{2}, 17), 0, 0, api.ErrFull},
		{"of 17, 16 of which are there", at(0, 0), slices.Repeat([]uint64{1}, 16), at(0, 0), slices.Repeat([]uint64{1}, 17), 0, 0, api.ErrFull},
		{"of more than 2^8", at(0, 0), nil, at(0, 0), slices.Repeat([]uint64{2}, 257), 0, 0, api.ErrFull},
		{"of many ahead of Base", at(1000, 2), []uint64{2, 2}, at(100, 1), slices.Repeat([]uint64{2}, 903), 2, 1, 0},
		{"that falls against Base, and is too long", at(5, 2), nil, at(3, 1), slices.Repeat([]uint64{1}, 19), 0, 0, api.ErrArg},
		{"behind what is not there, and too long", at(0, 0), []uint64{1}, at(3, 1), slices.Repeat([]uint64{1}, 17), 0, 0, api.ErrNone},
	} {
		l, entries := of(x.base, x.terms...), tagged('e', x.more...)
		if x.err != api.OK {
			fails(t, "a Splice "+x.what, l, x.prev, entries, x.err)
			continue
		}
		want := api.Log{Base: x.base, Entries: slices.Concat(l.Entries[:x.kept], entries[len(entries)-x.fresh:])}
		comes(t, "a Splice "+x.what, l, x.prev, entries, want, x.prev.Index+uint64(len(entries)))
	}
}

// P12.3: prev.Index and the count of entries: up to 2^64 - 2, and above.
func TestSumsOfSplices(t *testing.T) {
	l := of(at(last-4, 1), 1, 1)
	comes(t, "up to the last index", l, at(last-2, 1), tagged('e', 1, 1), api.Log{Base: l.Base, Entries: slices.Concat(l.Entries, tagged('e', 1, 1))}, last)
	fails(t, "one more", l, at(last-2, 1), tagged('e', 1, 1, 1), api.ErrArg)
	fails(t, "one more, behind what is not there", l, at(last-2, 2), tagged('e', 2, 2, 2), api.ErrArg)
	comes(t, "up to the last index, from ahead of Base on", l, at(last-5, 1), tagged('e', 1, 1, 1, 1, 1), api.Log{Base: l.Base, Entries: slices.Concat(l.Entries, tagged('e', 1, 1, 1, 1, 1)[3:])}, last)
	fails(t, "one more, from ahead of Base on", l, at(last-5, 1), tagged('e', 1, 1, 1, 1, 1, 1), api.ErrArg)
	fails(t, "beyond, onto no log", api.Log{}, at(last, 1), row(1), api.ErrArg)
	fails(t, "of none, at the last index", api.Log{}, at(last, 1), nil, api.ErrNone)
	fails(t, "of none, beyond the last index", api.Log{}, at(most, 1), nil, api.ErrArg)
	fails(t, "2^64", api.Log{}, at(most, 1), row(1), api.ErrArg)
	fails(t, "2^64 and more", api.Log{}, at(most, 1), level(17, 1), api.ErrArg)
	fails(t, "2^64 and more, from an index on that may be", api.Log{}, at(last, 1), level(17, 1), api.ErrArg)
	end := of(at(last-1, 3), 3)
	comes(t, "of none, at the last place", end, at(last, 3), nil, end, last)
	comes(t, "of the last one anew", end, at(last-1, 3), tagged('e', 4), api.Log{Base: end.Base, Entries: tagged('e', 4)}, last)
	fails(t, "behind the last place", end, at(last, 3), tagged('e', 4), api.ErrArg)
}

// P12.3: entries that the log has stay as they are, whatever else is said at their places; from the first unlike one on it is what was handed in.
func TestPlacesAloneAreCompared(t *testing.T) {
	l := api.Log{Entries: []api.Entry{{Term: 1, Kind: 2, Data: []byte("mine")}, {Term: 2, Kind: 3}, {Term: 2, Kind: 1}}}
	other := []api.Entry{{Term: 1, Kind: 1}, {Term: 2, Kind: 2, Data: []byte("yours")}, {Term: 3, Kind: 3, Data: []byte("ours")}}
	comes(t, "unlike Data at the same places", l, at(0, 0), other[:2], l, 2)
	comes(t, "unlike Data ahead of a conflict", l, at(0, 0), other, api.Log{Entries: slices.Concat(l.Entries[:2], other[2:])}, 3)
	comes(t, "unlike Data behind a conflict", l, at(0, 0), slices.Concat(row(2), level(2, 2)), api.Log{Entries: level(3, 2)}, 3)
}

// P12.4: Append with a lower, a level and a higher Term, to a full log, and at the last index.
func TestAppends(t *testing.T) {
	full := api.Log{Base: at(7, 2), Entries: level(16, 2)}
	for _, x := range []struct {
		what string
		l    api.Log
		term uint64
		err  api.Errno
	}{
		{"to nothing", api.Log{}, 1, 0},
		{"to nothing, the greatest", api.Log{}, most, 0},
		{"to nothing, of no Term", api.Log{}, 0, api.ErrArg},
		{"a lower one", example(), 1, api.ErrArg},
		{"a level one", example(), 2, 0},
		{"a higher one", example(), 3, 0},
		{"a lower one than Base", of(at(4, 3)), 2, api.ErrArg},
		{"a level one to Base", of(at(4, 3)), 3, 0},
		{"a higher one than Base", of(at(4, 3)), 4, 0},
		{"below the greatest", of(at(4, most)), most - 1, api.ErrArg},
		{"of the greatest", of(at(4, most)), most, 0},
		{"the sixteenth", api.Log{Entries: level(15, 2)}, 2, 0},
		{"the seventeenth", api.Log{Entries: level(16, 2)}, 2, api.ErrFull},
		{"to a full one behind Base", full, 2, api.ErrFull},
		{"a lower one to a full one", full, 1, api.ErrArg},
		{"one of no Term to a full one", full, 0, api.ErrArg},
		{"at the last index but one", of(at(last-2, 2), 2), 2, 0},
		{"at the last index", of(at(last-1, 2), 2), 2, api.ErrFull},
		{"at the last index, behind Base", of(at(last, 2)), 3, api.ErrFull},
		{"a lower one at the last index", of(at(last, 2)), 1, api.ErrArg},
	} {
		is(t, "Append "+x.what, appends(t, x.what, x.l, row(x.term)[0]), x.err)
	}
	n, place, err := log.Append(of(at(4, 3), 3), api.Entry{Term: 5, Kind: api.EntConf, Data: []byte{1, 2}})
	want := api.Log{Base: at(4, 3), Entries: append(tagged('l', 3), api.Entry{Term: 5, Kind: api.EntConf, Data: []byte{1, 2}})}
	if err != api.OK || place != at(6, 5) || !same(n, want) {
		t.Errorf("Append: %v, %v, error %d, not %v", n, place, err, want)
	}
}

// indices are all from 0 to two behind a log's end, as far as they are numbers, and the greatest ones.
func indices(l api.Log) []uint64 {
	all := []uint64{0, 1, last, most}
	for n := range uint64(len(l.Entries) + 6) {
		all = append(all, l.Base.Index+n-3)
	}
	return all
}

// someLogs are logs that may be.
func someLogs() []api.Log {
	return []api.Log{
		{}, example(), of(at(3, 2)), of(at(3, 2), 2, 2, 5), of(at(1, 1), 1), {Entries: level(16, 1)}, {Base: at(20, 4), Entries: level(16, 9)},
		of(at(last, 7)), of(at(last-1, 7), 7), of(at(last-3, 7), 7, 8, 9), of(at(last-4, 7), 7, 8, 9), of(at(1<<32-1, 1), 1, 1),
	}
}

// P12.5: From at each index, with an n below 0, of 0, and more than there are.
func TestFroms(t *testing.T) {
	for _, l := range someLogs() {
		for _, index := range indices(l) {
			for _, n := range []int{math.MinInt, -1, 0, 1, 2, 3, 4, 15, 16, 17, math.MaxInt} {
				froms(t, "a log", l, index, n)
			}
		}
	}
	l := of(at(3, 2), 2, 2, 5)
	for _, x := range []struct {
		index uint64
		n     int
		ahead api.At
		from  int
		count int
		err   api.Errno
	}{
		{4, 9, at(3, 2), 0, 3, 0}, {4, 3, at(3, 2), 0, 3, 0}, {4, 2, at(3, 2), 0, 2, 0}, {4, 0, at(3, 2), 0, 0, 0}, {4, -1, at(0, 0), 0, 0, api.ErrArg},
		{5, 1, at(4, 2), 1, 1, 0}, {6, 1, at(5, 2), 2, 1, 0}, {6, 2, at(5, 2), 2, 1, 0},
		{7, 5, at(6, 5), 3, 0, 0}, {7, 0, at(6, 5), 3, 0, 0}, {7, -1, at(0, 0), 0, 0, api.ErrArg},
		{8, 5, at(0, 0), 0, 0, api.ErrNone}, {8, -1, at(0, 0), 0, 0, api.ErrNone}, {3, 5, at(0, 0), 0, 0, api.ErrNone}, {3, -1, at(0, 0), 0, 0, api.ErrNone},
		{0, 5, at(0, 0), 0, 0, api.ErrNone}, {most, 5, at(0, 0), 0, 0, api.ErrNone},
	} {
		ahead, got, err := log.From(l, x.index, x.n)
		if want := l.Entries[x.from : x.from+x.count]; err != x.err || ahead != x.ahead || !alike(got, want) {
			t.Errorf("From(%d, %d): %v, %v, error %d, not %v, %v, %d", x.index, x.n, ahead, got, err, x.ahead, want, x.err)
		}
	}
	is(t, "From of index 0, where nothing is ahead", froms(t, "index 0", api.Log{}, 0, 1), api.ErrNone)
	is(t, "From behind the greatest index", froms(t, "2^64 - 1", of(at(last, 7)), most, 1), api.OK)
}

// P12.6: Compact at each index; and what is compacted once more.
func TestCompacts(t *testing.T) {
	for _, l := range someLogs() {
		for _, index := range indices(l) {
			if compacts(t, "a log", l, index) != api.OK {
				continue
			}
			n, _ := log.Compact(l, index)
			for _, further := range indices(l) {
				want, err := log.Compact(l, further)
				if further < index {
					want, err = api.Log{}, api.ErrNone
				}
				got, e := log.Compact(n, further)
				if e != err || !same(got, want) {
					t.Errorf("Compact(%d) behind Compact(%d) of %v: %v, error %d, not %v, %d", further, index, l, got, e, want, err)
				}
			}
		}
	}
	l := of(at(3, 2), 2, 3, 5)
	for index, want := range []api.Log{3: l, 4: {Base: at(4, 2), Entries: l.Entries[1:]}, 5: {Base: at(5, 3), Entries: l.Entries[2:]}, 6: {Base: at(6, 5)}} {
		err := api.OK
		if index < 3 {
			err = api.ErrNone
		}
		got, e := log.Compact(l, uint64(index))
		if e != err || !same(got, want) {
			t.Errorf("Compact(%d): %v, error %d, not %v, %d", index, got, e, want, err)
		}
	}
	is(t, "Compact behind the end", compacts(t, "behind the end", l, 7), api.ErrNone)
	is(t, "Compact of nothing", compacts(t, "nothing", api.Log{}, 0), api.OK)
}

// P12.5: Conf where there is none, at, ahead of and behind one.
func TestConfs(t *testing.T) {
	l := of(at(3, 2), 2, 2, 2, 2, 2, 2)
	for i := range l.Entries {
		l.Entries[i].Kind = api.EntCommand
	}
	none := api.Log{Base: l.Base, Entries: plain(l.Entries)}
	for index := range uint64(12) {
		confs(t, "none", none, index)
		if own, data, there := log.Conf(none, index); own != 0 || len(data) != 0 || there {
			t.Errorf("Conf(%d) where there is none: %d, % x, %v", index, own, data, there)
		}
	}
	l.Entries[1] = api.Entry{Term: 2, Kind: api.EntConf, Data: []byte{1, 2}}
	l.Entries[3] = api.Entry{Term: 2, Kind: api.EntConf}
	l.Entries[4] = api.Entry{Term: 2, Kind: api.EntNone}
	l.Entries[5] = api.Entry{Term: 2, Kind: api.EntConf, Data: []byte{3}}
	for index, want := range []uint64{5: 5, 6: 5, 7: 7, 8: 7, 9: 9, 10: 9, 11: 9} {
		own, data, there := log.Conf(l, uint64(index))
		var text []byte
		if want > 0 {
			text = l.Entries[want-4].Data
		}
		if own != want || !bytes.Equal(data, text) || there != (want > 0) {
			t.Errorf("Conf(%d): %d, % x, %v, not %d, % x", index, own, data, there, want, text)
		}
		confs(t, "some", l, uint64(index))
	}
	confs(t, "the greatest index", l, most)
	first := api.Log{Entries: []api.Entry{{Term: 1, Kind: api.EntConf}}}
	if own, _, there := log.Conf(first, 1); own != 1 || !there {
		t.Errorf("Conf(1) of a first one without Data: %d, %v", own, there)
	}
}

// badLogs are logs that may not be, each for one reason.
func badLogs() []api.Log {
	return []api.Log{
		{Entries: level(17, 1)}, of(at(0, 0), 0), of(at(0, 0), 2, 1), of(at(4, 3), 2), of(at(4, 0)), of(at(0, 4)), of(at(4, 0), 1), of(at(most, 1)), of(at(last, 1), 1),
		{Entries: []api.Entry{{Term: 1, Kind: 0}}}, {Entries: []api.Entry{{Term: 1, Kind: 4}}}, {Entries: []api.Entry{{Term: 1, Kind: -1}}},
		{Entries: []api.Entry{{Term: 1, Kind: 1, Data: []byte{0}}}}, {Entries: []api.Entry{{Term: 1, Kind: 2, Data: make([]byte, 1025)}}},
		{Entries: []api.Entry{{Term: 1, Kind: 3, Data: []byte{1}}, {Term: 1, Kind: 3, Data: make([]byte, 1025)}}},
		{Base: at(3, 1), Entries: append(tagged('l', 1, 1), api.Entry{Term: 2})},
	}
}

// P12.1 to P12.6: logs that may not be, in each call: ErrLog ahead of all else, or nothing.
func TestBadLogs(t *testing.T) {
	for _, l := range badLogs() {
		mayNot(t, "a bad log", l)
		for _, index := range indices(l) {
			for _, n := range []int{-1, 0, 1, 9} {
				is(t, "From", froms(t, "a bad log", l, index, n), api.ErrLog)
			}
			is(t, "Compact", compacts(t, "a bad log", l, index), api.ErrLog)
			for _, term := range []uint64{0, 1, 2} {
				for _, more := range [][]api.Entry{nil, row(1), row(2, 1), row(0), level(17, 3)} {
					is(t, "Splice", splices(t, "a bad log", l, at(index, term), more), api.ErrLog)
				}
				is(t, "Append", appends(t, "a bad log", l, row(term)[0]), api.ErrLog)
			}
			term, there := log.Term(l, index)
			own, data, is := log.Conf(l, index)
			if term != 0 || there || own != 0 || len(data) > 0 || is || log.Has(l, at(index, term)) || log.Has(l, l.Base) {
				t.Errorf("a bad log %v tells something at %d", l, index)
			}
		}
	}
}

// P12.1: Same of logs that differ in one place each, and of lists and Data that are nil and empty; logs that may not be are held against one another too.
func TestSame(t *testing.T) {
	l := api.Log{Base: at(3, 2), Entries: []api.Entry{{Term: 2, Kind: 2, Data: []byte{1, 2}}, {Term: 2, Kind: 1}, {Term: 3, Kind: 3, Data: []byte{}}}}
	all := []api.Log{l, {}, example(), {Base: l.Base}}
	change := func(do func(n *api.Log)) {
		n := api.Log{Base: l.Base, Entries: plain(l.Entries)}
		do(&n)
		all = append(all, n)
	}
	change(func(n *api.Log) { n.Base.Index++ })
	change(func(n *api.Log) { n.Base.Term-- })
	change(func(n *api.Log) { n.Base = at(0, 0) })
	change(func(n *api.Log) { n.Entries = n.Entries[:2] })
	change(func(n *api.Log) { n.Entries = n.Entries[1:] })
	change(func(n *api.Log) { n.Entries = append(n.Entries, n.Entries[2]) })
	change(func(n *api.Log) { n.Entries[0], n.Entries[1] = n.Entries[1], n.Entries[0] })
	change(func(n *api.Log) { n.Entries[0].Data = []byte{1} })
	change(func(n *api.Log) { n.Entries[0].Data = []byte{1, 3} })
	change(func(n *api.Log) { n.Entries[0].Data = []byte{0, 2} })
	change(func(n *api.Log) { n.Entries[0].Data = nil })
	for i := range l.Entries {
		change(func(n *api.Log) { n.Entries[i].Term++ })
		change(func(n *api.Log) { n.Entries[i].Term = 0 })
		change(func(n *api.Log) { n.Entries[i].Kind = 4 })
		change(func(n *api.Log) { n.Entries[i].Kind = 0 })
		change(func(n *api.Log) { n.Entries[i].Data = append(n.Entries[i].Data, 0) })
	}
	for i, a := range all {
		for j, b := range all {
			if log.Same(a, b) != (i == j) {
				t.Errorf("Same of %v and %v: %v", a, b, i != j)
			}
			alikes(t, "logs", a, b)
		}
	}
	for _, x := range [][2]api.Log{
		{{}, {Entries: []api.Entry{}}},
		{{Entries: []api.Entry{{Term: 1, Kind: 2}}}, {Entries: []api.Entry{{Term: 1, Kind: 2, Data: []byte{}}}}},
		{{Entries: []api.Entry{{}}}, {Entries: []api.Entry{{Data: []byte{}}}}},
	} {
		if !log.Same(x[0], x[1]) || !log.Same(x[1], x[0]) {
			t.Errorf("%v and %v: nil and empty are two", x[0], x[1])
		}
	}
	for _, a := range badLogs() {
		alikes(t, "a bad log", a, l)
		alikes(t, "a bad log", a, spoiledBy(a))
	}
}

// spoiledBy is a log with one entry more.
func spoiledBy(l api.Log) api.Log {
	l.Entries = append(plain(l.Entries), row(1)...)
	return l
}
