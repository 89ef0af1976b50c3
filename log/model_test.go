package log_test

import (
	"math"
	"math/bits"
	"math/rand"
	"reflect"
	"slices"
	"strconv"
	"testing"

	"confluence/api"
	"confluence/log"
)

// The model says the chapter's words once more: by numbers written out, and by maps from indices.

// modelEntry tells whether an entry may be.
func modelEntry(e api.Entry) bool {
	if e.Term == 0 {
		return false
	}
	return e.Kind == 1 && len(e.Data) == 0 || (e.Kind == 2 || e.Kind == 3) && len(e.Data) < 1025
}

// modelFits tells whether an index and a count are together at most 2^64 - 2.
func modelFits(index uint64, count int) bool {
	sum, over := bits.Add64(index, uint64(count), 0)
	return over == 0 && sum < 1<<64-1
}

// modelRises tells whether Terms do not fall, from one on.
func modelRises(from uint64, entries []api.Entry) bool {
	terms := []uint64{from}
	for _, e := range entries {
		terms = append(terms, e.Term)
	}
	return slices.IsSorted(terms)
}

// modelMay tells whether a log may be.
func modelMay(l api.Log) bool {
	for _, e := range l.Entries {
		if !modelEntry(e) {
			return false
		}
	}
	based := l.Base == api.At{} || l.Base.Index > 0 && l.Base.Term > 0
	return based && len(l.Entries) < 17 && modelRises(l.Base.Term, l.Entries) && modelFits(l.Base.Index, len(l.Entries))
}

// modelPlaces are the Terms of a log's places, by their indices.
func modelPlaces(l api.Log) map[uint64]uint64 {
	terms := map[uint64]uint64{l.Base.Index: l.Base.Term}
	for i, e := range l.Entries {
		terms[l.Base.Index+uint64(i)+1] = e.Term
	}
	return terms
}

// modelLast is the last place of a log that may be.
func modelLast(l api.Log) api.At {
	index := l.Base.Index + uint64(len(l.Entries))
	return api.At{Index: index, Term: modelPlaces(l)[index]}
}

// modelTerm is what Term is to answer.
func modelTerm(l api.Log, index uint64) (uint64, bool) {
	if !modelMay(l) {
		return 0, false
	}
	term, there := modelPlaces(l)[index]
	return term, there
}

// modelHas is what Has is to answer.
func modelHas(l api.Log, at api.At) bool {
	term, there := modelTerm(l, at.Index)
	return there && term == at.Term
}

// modelCheck is what Check is to answer.
func modelCheck(l api.Log, top uint64) api.Errno {
	switch {
	case !modelMay(l):
		return 220
	case modelLast(l).Term > top:
		return 2
	}
	return 0
}

// modelSplice is what Splice is to answer.
func modelSplice(l api.Log, prev api.At, entries []api.Entry) (api.Log, uint64, api.Errno) {
	if !modelMay(l) {
		return api.Log{}, 0, 220
	}
	for _, e := range entries {
		if !modelEntry(e) {
			return api.Log{}, 0, 2
		}
	}
	if !modelRises(prev.Term, entries) || !modelFits(prev.Index, len(entries)) {
		return api.Log{}, 0, 2
	}
	if prev.Index >= l.Base.Index && !modelHas(l, prev) {
		return api.Log{}, 0, 4
	}
	last := prev.Index + uint64(len(entries))
	for i, e := range entries {
		index := prev.Index + uint64(i) + 1
		if index <= l.Base.Index || modelHas(l, api.At{Index: index, Term: e.Term}) {
			continue
		}
		term, there := modelTerm(l, index-1)
		if !there {
			return api.Log{}, 0, 4
		}
		if term > e.Term {
			return api.Log{}, 0, 2
		}
		row := slices.Concat(l.Entries[:index-l.Base.Index-1], entries[i:])
		if len(row) > 16 {
			return api.Log{}, 0, 6
		}
		return api.Log{Base: l.Base, Entries: row}, last, 0
	}
	return l, last, 0
}

// modelAppend is what Append is to answer.
func modelAppend(l api.Log, e api.Entry) (api.Log, api.At, api.Errno) {
	if !modelMay(l) {
		return api.Log{}, api.At{}, 220
	}
	last := modelLast(l)
	if !modelEntry(e) || e.Term < last.Term {
		return api.Log{}, api.At{}, 2
	}
	if len(l.Entries) == 16 || last.Index == 1<<64-2 {
		return api.Log{}, api.At{}, 6
	}
	return api.Log{Base: l.Base, Entries: slices.Concat(l.Entries, []api.Entry{e})}, api.At{Index: last.Index + 1, Term: e.Term}, 0
}

// modelFrom is what From is to answer.
func modelFrom(l api.Log, index uint64, n int) (api.At, []api.Entry, api.Errno) {
	if !modelMay(l) {
		return api.At{}, nil, 220
	}
	if index <= l.Base.Index || index > modelLast(l).Index+1 {
		return api.At{}, nil, 4
	}
	if n < 0 {
		return api.At{}, nil, 2
	}
	var row []api.Entry
	for i, e := range l.Entries {
		if l.Base.Index+uint64(i)+1 >= index && len(row) < n {
			row = append(row, e)
		}
	}
	return api.At{Index: index - 1, Term: modelPlaces(l)[index-1]}, row, 0
}

// modelCompact is what Compact is to answer.
func modelCompact(l api.Log, index uint64) (api.Log, api.Errno) {
	if !modelMay(l) {
		return api.Log{}, 220
	}
	term, there := modelTerm(l, index)
	if !there {
		return api.Log{}, 4
	}
	n := api.Log{Base: api.At{Index: index, Term: term}}
	for i, e := range l.Entries {
		if l.Base.Index+uint64(i)+1 > index {
			n.Entries = append(n.Entries, e)
		}
	}
	return n, 0
}

// modelConf is what Conf is to answer.
func modelConf(l api.Log, index uint64) (uint64, []byte, bool) {
	if !modelMay(l) {
		return 0, nil, false
	}
	for i, e := range slices.Backward(l.Entries) {
		if at := l.Base.Index + uint64(i) + 1; at <= index && e.Kind == 3 {
			return at, e.Data, true
		}
	}
	return 0, nil, false
}

// plain are entries without anything nil.
func plain(entries []api.Entry) []api.Entry {
	row := []api.Entry{}
	for _, e := range entries {
		e.Data = append([]byte{}, e.Data...)
		row = append(row, e)
	}
	return row
}

// alike and same tell whether entries, and logs, are the same, whatever the program says of it.
func alike(a, b []api.Entry) bool {
	return reflect.DeepEqual(plain(a), plain(b))
}

func same(a, b api.Log) bool {
	return a.Base == b.Base && alike(a.Entries, b.Entries)
}

// pick is one of a list.
func pick[R any](r *rand.Rand, list ...R) R {
	return list[r.Intn(len(list))]
}

// drawnEntries are entries of chance that may be, and may stand behind a Term.
func drawnEntries(r *rand.Rand, term uint64, n int) []api.Entry {
	var row []api.Entry
	for range n {
		term = max(term, 1)
		if r.Intn(3) == 0 && term < math.MaxUint64 {
			term++
		}
		e := api.Entry{Term: term, Kind: 1 + r.Intn(3)}
		if e.Kind > 1 {
			e.Data = make([]byte, pick(r, 0, 1, 2, r.Intn(20)))
			if r.Intn(20) == 0 {
				e.Data = make([]byte, 1024)
			}
			r.Read(e.Data)
		}
		row = append(row, e)
	}
	return row
}

// drawn is a log of chance that may be.
func drawn(r *rand.Rand) api.Log {
	n := pick(r, 0, 1, 2, 3, 8, 15, 16)
	index := pick(r, 0, 0, 1, 2, 5, 1<<32, math.MaxUint64-30, math.MaxUint64-1-uint64(n))
	if index == 0 {
		return api.Log{Entries: drawnEntries(r, 0, n)}
	}
	base := api.At{Index: index, Term: pick[uint64](r, 1, 2, 3, math.MaxUint64)}
	return api.Log{Base: base, Entries: drawnEntries(r, base.Term, n)}
}

// spoiled is a log with something put into it that may be right there.
func spoiled(r *rand.Rand, l api.Log) api.Log {
	l.Entries = plain(l.Entries)
	if len(l.Entries) == 0 || r.Intn(3) == 0 {
		switch r.Intn(3) {
		case 0:
			l.Base.Index = pick[uint64](r, 0, 1, math.MaxUint64-1, math.MaxUint64)
		case 1:
			l.Base.Term = pick[uint64](r, 0, 1, 4)
		case 2:
			l.Entries = append(l.Entries, drawnEntries(r, 1, 1+r.Intn(17))...)
		}
		return l
	}
	e := &l.Entries[r.Intn(len(l.Entries))]
	switch r.Intn(3) {
	case 0:
		e.Term = pick[uint64](r, 0, 1, 2, 9)
	case 1:
		e.Kind = r.Intn(6) - 1
	case 2:
		e.Data = make([]byte, pick(r, 1, 1024, 1025))
	}
	return l
}

// near is an index about a log's ends.
func near(r *rand.Rand, l api.Log) uint64 {
	return l.Base.Index + uint64(r.Intn(len(l.Entries)+5)) - 2
}

// drawnSplice is a prev and entries: often such as the log has in part.
func drawnSplice(r *rand.Rand, l api.Log) (api.At, []api.Entry) {
	prev := api.At{Index: near(r, l)}
	var row []api.Entry
	if term, there := modelPlaces(l)[prev.Index]; there {
		prev.Term = term
		at := prev.Index - l.Base.Index
		row = plain(l.Entries[at:])[:r.Intn(len(l.Entries)-int(at)+1)]
	} else if prev.Index < l.Base.Index {
		prev.Term = min(l.Base.Term, pick[uint64](r, 1, 2))
		ahead := drawnEntries(r, 1, int(l.Base.Index-prev.Index))
		for i := range ahead {
			ahead[i].Term = prev.Term
		}
		row = slices.Concat(ahead, plain(l.Entries))[:r.Intn(len(ahead)+len(l.Entries)+1)]
	}
	if r.Intn(3) == 0 && len(row) > 0 {
		row[r.Intn(len(row))].Term += pick[uint64](r, 1, 1, math.MaxUint64)
	}
	if r.Intn(8) == 0 {
		prev.Term += pick[uint64](r, 1, math.MaxUint64)
	}
	last := prev.Term
	if len(row) > 0 {
		last = row[len(row)-1].Term
	}
	return prev, append(row, drawnEntries(r, last, pick(r, 0, 1, 2, 5, 16))...)
}

// P12.1 to P12.6: logs of chance, some of them spoiled; what each call answers is met often enough.
func TestChanceOnesAreTheModels(t *testing.T) {
	r := rand.New(rand.NewSource(12))
	met := map[string]int{}
	meets := func(what string, err api.Errno) {
		met[what+" "+strconv.Itoa(int(err))]++
	}
	other := drawn(r)
	for i := range 6000 {
		l := drawn(r)
		prev, row := drawnSplice(r, l)
		e := drawnEntries(r, modelLast(l).Term, 1)[0]
		if r.Intn(4) == 0 {
			e.Term += pick[uint64](r, 1, math.MaxUint64)
		}
		if r.Intn(6) == 0 {
			l = spoiled(r, l)
		}
		what := "log of chance, number " + strconv.Itoa(i)
		asModel(t, what, l)
		meets("Splice", splices(t, what, l, prev, row))
		meets("Append", appends(t, what, l, e))
		meets("From", froms(t, what, l, near(r, l), r.Intn(7)-1))
		meets("Compact", compacts(t, what, l, near(r, l)))
		_, _, there := modelConf(l, near(r, l))
		met["Conf "+strconv.FormatBool(there)]++
		alikes(t, what, l, other)
		alikes(t, what, l, spoiled(r, l))
		other = l
		if t.Failed() {
			return
		}
	}
	for _, what := range []string{
		"Splice 0", "Splice 2", "Splice 4", "Splice 6", "Splice 220", "Append 0", "Append 2", "Append 6", "Append 220",
		"From 0", "From 2", "From 4", "From 220", "Compact 0", "Compact 4", "Compact 220", "Conf true", "Conf false",
	} {
		if met[what] < 200 {
			t.Errorf("%s: met %d times only", what, met[what])
		}
	}
}

// sequences are all lists of at most n Terms from 0 to top.
func sequences(n int, top uint64) [][]uint64 {
	all := [][]uint64{nil}
	for from := 0; n > 0; n-- {
		end := len(all)
		for _, ahead := range all[from:end] {
			for term := range top + 1 {
				all = append(all, append(slices.Clone(ahead), term))
			}
		}
		from = end
	}
	return all
}

// tagged are entries of those Terms, with Data that tells who made them, and where.
func tagged(by byte, terms ...uint64) []api.Entry {
	var row []api.Entry
	for i, term := range terms {
		row = append(row, api.Entry{Term: term, Kind: 2 + i%2, Data: []byte{by, byte(i)}})
	}
	return row
}

// P12.1 to P12.6: all small logs, with all that can be asked of them with small numbers.
func TestAllSmallOnesAreTheModels(t *testing.T) {
	for _, base := range []api.At{{}, {Index: 0, Term: 1}, {Index: 1, Term: 0}, {Index: 1, Term: 1}, {Index: 2, Term: 1}, {Index: 2, Term: 2}, {Index: 3, Term: 3}} {
		for _, terms := range sequences(3, 3) {
			l := api.Log{Base: base, Entries: tagged('l', terms...)}
			asModel(t, "a small log", l)
			for term := range uint64(5) {
				appends(t, "a small log", l, tagged('e', term)[0])
			}
			for index := range uint64(9) {
				compacts(t, "a small log", l, index)
				for n := range 6 {
					froms(t, "a small log", l, index, n-1)
				}
			}
			if t.Failed() {
				return
			}
		}
	}
}

// P12.3: all small logs that may be, spliced with all that has small numbers.
func TestAllSmallSplicesAreTheModels(t *testing.T) {
	met := map[api.Errno]int{}
	for _, base := range []api.At{{}, {Index: 1, Term: 1}, {Index: 2, Term: 1}, {Index: 2, Term: 2}} {
		for _, terms := range sequences(3, 3) {
			l := api.Log{Base: base, Entries: tagged('l', terms...)}
			if !modelMay(l) {
				continue
			}
			for index := range uint64(6) {
				for term := range uint64(4) {
					for _, more := range sequences(3, 3) {
						prev, row := api.At{Index: index, Term: term}, tagged('e', more...)
						want, last, err := modelSplice(l, prev, row)
						got, index, e := log.Splice(l, prev, row)
						if e != err || index != last || !same(got, want) {
							t.Fatalf("Splice of %v, %v, %v: %v, %d, error %d, not %v, %d, %d", l, prev, row, got, index, e, want, last, err)
						}
						met[e]++
					}
				}
			}
		}
	}
	for _, err := range []api.Errno{api.OK, api.ErrArg, api.ErrNone} {
		if met[err] < 1000 {
			t.Errorf("error %d: met %d times only", err, met[err])
		}
	}
}
