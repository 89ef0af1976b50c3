package merge_test

import (
	"slices"
	"strconv"
	"strings"
	"testing"

	"confluence/api"
	"confluence/merge"
)

// text is a text of n bytes.
func text(n int) string {
	return strings.Repeat("x", n)
}

// mapOf is a map of a path, a text, a path, a text.
func mapOf(parts ...string) api.Map {
	var m api.Map
	for i := 0; i < len(parts); i += 2 {
		m.Rows = append(m.Rows, api.Row{Path: parts[i], Text: parts[i+1]})
	}
	return m
}

// put is the change that a text is there, gone the one that none is.
func put(path, text string) api.Change { return api.Change{Path: path, Is: true, Text: text} }
func gone(path string) api.Change      { return api.Change{Path: path} }

// edit is an edit of these changes.
func edit(rows ...api.Change) api.Edit { return api.Edit{Rows: rows} }

// there and none are what a map has at a path.
func there(text string) api.Side { return api.Side{Is: true, Text: text} }

var none = api.Side{}

// numbered is the path of a number from 0 to 999: they rise as the numbers do.
func numbered(i int) string {
	return "p" + strconv.Itoa(1000 + i)[1:]
}

// many is a map of all the paths from one number to ahead of another one, with one text.
func many(from, to int, text string) api.Map {
	var m api.Map
	for i := from; i < to; i++ {
		m.Rows = append(m.Rows, api.Row{Path: numbered(i), Text: text})
	}
	return m
}

// with is the rows of all these maps, which rise from one to the next.
func with(l ...api.Map) api.Map {
	var m api.Map
	for _, x := range l {
		m.Rows = append(m.Rows, x.Rows...)
	}
	return m
}

// manyPut and manyGone are edits of such paths.
func manyPut(from, to int, text string) api.Edit {
	var e api.Edit
	for i := from; i < to; i++ {
		e.Rows = append(e.Rows, put(numbered(i), text))
	}
	return e
}

func manyGone(from, to int) api.Edit {
	var e api.Edit
	for i := from; i < to; i++ {
		e.Rows = append(e.Rows, gone(numbered(i)))
	}
	return e
}

// is fails the test if an error is another one.
func is(t *testing.T, what string, got, want api.Errno) {
	t.Helper()
	if got != want {
		t.Errorf("%s: error %d, not %d", what, got, want)
	}
}

// has fails the test if rows are others than these.
func has[R comparable](t *testing.T, what string, got, want []R) {
	t.Helper()
	if !slices.Equal(got, want) {
		t.Errorf("%s: %v, not %v", what, got, want)
	}
}

// behind is how many rows stand behind the end of a list that is roomy.
const behind = 3

// roomy is a list with room behind its end, which is full of what is no row of any.
func roomy[R any](rows []R, odd R) []R {
	whole := make([]R, len(rows), len(rows)+behind)
	copy(whole, rows)
	for range behind {
		whole = append(whole, odd)
	}
	return whole[:len(rows)]
}

// untouched fails the test if a roomy list, or the room behind its end, is not as it was.
func untouched[R comparable](t *testing.T, what string, rows, were []R, odd R) {
	t.Helper()
	has(t, what+": what was handed in", rows, were)
	for _, r := range rows[len(rows) : len(rows)+behind] {
		if r != odd {
			t.Errorf("%s: the room behind what was handed in: %v", what, r)
		}
	}
}

// oddRow and oddChange are what the room is full of.
var (
	oddRow    = api.Row{Path: "odd", Text: "odd"}
	oddChange = api.Change{Path: "odd", Text: "odd"}
)

// roomyThree is three maps with room behind them.
func roomyThree(m three) three {
	for i := range m {
		m[i].Rows = roomy(m[i].Rows, oddRow)
	}
	return m
}

// untouchedThree fails the test if a map that was handed in is not as it was; then it takes away what they have.
func untouchedThree(t *testing.T, what string, in, were three) {
	t.Helper()
	for i := range in {
		untouched(t, what, in[i].Rows, were[i].Rows, oddRow)
		clear(in[i].Rows[:cap(in[i].Rows)])
	}
}

// conflicts fails the test if Conflicts answers something else, changes what it is handed, or keeps it.
func conflicts(t *testing.T, what string, m three, want []api.Conflict, err api.Errno) {
	t.Helper()
	what += ": Conflicts"
	in := roomyThree(m)
	got, no := merge.Conflicts(in[0], in[1], in[2])
	is(t, what, no, err)
	untouchedThree(t, what, in, m)
	has(t, what, got, want)
	clear(got[:cap(got)])
	again, no := merge.Conflicts(m[0], m[1], m[2])
	is(t, what+" again", no, err)
	has(t, what+" again", again, want)
}

// merges fails the test if Merge answers something else, changes what it is handed, or keeps it.
func merges(t *testing.T, what string, m three, by api.Edit, want api.Map, err api.Errno) {
	t.Helper()
	what += ": Merge"
	in, said := roomyThree(m), api.Edit{Rows: roomy(by.Rows, oddChange)}
	got, no := merge.Merge(in[0], in[1], in[2], said)
	is(t, what, no, err)
	untouchedThree(t, what, in, m)
	untouched(t, what, said.Rows, by.Rows, oddChange)
	clear(said.Rows)
	has(t, what, got.Rows, want.Rows)
	clear(got.Rows[:cap(got.Rows)])
	again, no := merge.Merge(m[0], m[1], m[2], by)
	is(t, what+" again", no, err)
	has(t, what+" again", again.Rows, want.Rows)
}

// takes fails the test if Take answers something else, changes what it is handed, or keeps it.
func takes(t *testing.T, what string, m three, which int, want api.Edit, err api.Errno) {
	t.Helper()
	what += ": Take " + strconv.Itoa(which)
	in := roomyThree(m)
	got, no := merge.Take(in[0], in[1], in[2], which)
	is(t, what, no, err)
	untouchedThree(t, what, in, m)
	has(t, what, got.Rows, want.Rows)
	clear(got.Rows[:cap(got.Rows)])
	again, no := merge.Take(m[0], m[1], m[2], which)
	is(t, what+" again", no, err)
	has(t, what+" again", again.Rows, want.Rows)
}

// rebases fails the test if Rebase answers something else, changes what it is handed, or keeps it.
func rebases(t *testing.T, what string, base, onto api.Map, by api.Edit, want api.Map, err api.Errno) {
	t.Helper()
	what += ": Rebase"
	in, said := roomyThree(three{base, onto, {}}), api.Edit{Rows: roomy(by.Rows, oddChange)}
	got, no := merge.Rebase(in[0], in[1], said)
	is(t, what, no, err)
	untouchedThree(t, what, in, three{base, onto, {}})
	untouched(t, what, said.Rows, by.Rows, oddChange)
	clear(said.Rows)
	has(t, what, got.Rows, want.Rows)
	clear(got.Rows[:cap(got.Rows)])
	again, no := merge.Rebase(base, onto, by)
	is(t, what+" again", no, err)
	has(t, what+" again", again.Rows, want.Rows)
}

// example is the chapter's.
var example = three{mapOf("a", "1", "b", "1", "c", "1"), mapOf("a", "2", "b", "1", "d", "4"), mapOf("a", "1", "b", "3", "c", "5")}

// P7.1 to P7.4: the chapter's examples.
func TestExamples(t *testing.T) {
	conflicts(t, "example", example, []api.Conflict{{Path: "c", Base: there("1"), Ours: none, Theirs: there("5")}}, api.OK)
	merges(t, "c gone", example, edit(gone("c")), mapOf("a", "2", "b", "3", "d", "4"), api.OK)
	merges(t, "c: 9", example, edit(put("c", "9")), mapOf("a", "2", "b", "3", "c", "9", "d", "4"), api.OK)
	merges(t, "no rows", example, edit(), api.Map{}, api.ErrConflict)
	takes(t, "ours", example, 1, edit(gone("c")), api.OK)
	takes(t, "theirs", example, 2, edit(put("c", "5")), api.OK)
	takes(t, "base", example, 0, edit(put("c", "1")), api.OK)
	rebases(t, "b: 3", example[0], example[1], edit(put("b", "3")), mapOf("a", "2", "b", "3", "d", "4"), api.OK)
}

// noMaps are maps that may not be.
var noMaps = []api.Map{mapOf("b", "1", "a", "1"), mapOf("a", "1", "a", "1"), mapOf("", "1"), mapOf("a b", "1"), mapOf(text(49), "1"), mapOf("a", text(257)), many(0, 33, "1")}

// noEdits are edits that may not be.
var noEdits = []api.Edit{edit(api.Change{Path: "c", Text: "1"}), edit(gone("")), edit(gone("c"), gone("c")), edit(gone("d"), gone("c")), edit(put("c", text(257))), edit(put("c c", "")), edit(put(text(49), "")), manyPut(0, 33, "")}

// P7.1 to P7.4: a map that may not be, at each place, alone and beside others, and beside an edit that may not be.
func TestMapsThatMayNotBe(t *testing.T) {
	for i, x := range noMaps {
		for at := range 8 {
			if at == 0 {
				continue
			}
			m, what := example, "the map that may not be "+strconv.Itoa(i)+" at "+strconv.Itoa(at)
			for k := range m {
				if at>>k&1 == 1 {
					m[k] = x
				}
			}
			conflicts(t, what, m, nil, api.ErrMap)
			for _, by := range append([]api.Edit{edit(), edit(gone("c")), edit(gone("x"))}, noEdits...) {
				merges(t, what, m, by, api.Map{}, api.ErrMap)
			}
			for _, which := range whiches {
				takes(t, what, m, which, edit(), api.ErrMap)
			}
		}
	}
}

// P7.2: an edit that may not be goes ahead of conflicts that nobody resolves, and of too many rows.
func TestEditsThatMayNotBe(t *testing.T) {
	full := three{{}, many(0, 32, "1"), many(32, 64, "1")}
	for i, by := range noEdits {
		what := "the edit that may not be " + strconv.Itoa(i)
		merges(t, what, example, by, api.Map{}, api.ErrEdit)
		merges(t, what+", of empty maps", three{}, by, api.Map{}, api.ErrEdit)
		merges(t, what+", of too many rows", full, by, api.Map{}, api.ErrEdit)
	}
}

// P7.1 to P7.4: empty maps, with no list and with an empty one.
func TestEmptyMaps(t *testing.T) {
	for _, empty := range []api.Map{{}, {Rows: []api.Row{}}} {
		for _, e := range []api.Edit{{}, {Rows: []api.Change{}}} {
			m := three{empty, empty, empty}
			conflicts(t, "empty", m, nil, api.OK)
			merges(t, "empty", m, e, api.Map{}, api.OK)
			takes(t, "empty", m, 0, edit(), api.OK)
			rebases(t, "empty", empty, empty, e, api.Map{}, api.OK)
			one := mapOf("a", "1")
			merges(t, "one of ours", three{empty, one, empty}, e, one, api.OK)
			merges(t, "one of theirs", three{empty, empty, one}, e, one, api.OK)
			merges(t, "one of base", three{one, empty, empty}, e, api.Map{}, api.OK)
			merges(t, "one gone of ours", three{one, empty, one}, e, api.Map{}, api.OK)
			merges(t, "one gone of theirs", three{one, one, empty}, e, api.Map{}, api.OK)
			rebases(t, "one of base", one, empty, e, api.Map{}, api.OK)
			rebases(t, "one of onto", empty, one, e, one, api.OK)
		}
	}
	merges(t, "a resolution of no conflict", three{}, edit(gone("a")), api.Map{}, api.ErrConflict)
}

// P7.1, P7.2: maps that are the same, and such that share no path.
func TestTheSameAndApart(t *testing.T) {
	for _, x := range []api.Map{mapOf("a", "1", "b", ""), many(0, 32, text(256))} {
		conflicts(t, "the same", three{x, x, x}, nil, api.OK)
		merges(t, "the same", three{x, x, x}, edit(), x, api.OK)
		takes(t, "the same", three{x, x, x}, 1, edit(), api.OK)
	}
	apart := three{mapOf("b", "1", "e", "1"), mapOf("a", "2", "d", "2"), mapOf("c", "3", "f", "3")}
	conflicts(t, "apart", apart, nil, api.OK)
	merges(t, "apart", apart, edit(), mapOf("a", "2", "c", "3", "d", "2", "f", "3"), api.OK)
	merges(t, "apart, and one too many", apart, edit(gone("b")), api.Map{}, api.ErrConflict)
}

// P7.1, P7.2: each way in which a path may stand in three maps, by hand: "-" is none, and "" a text.
func TestEachWay(t *testing.T) {
	for _, x := range []struct{ base, ours, theirs, want string }{
		{"-", "-", "-", "-"}, {"1", "1", "1", "1"}, {"", "", "", ""},
		{"-", "1", "1", "1"}, {"1", "-", "-", "-"}, {"1", "2", "2", "2"}, {"-", "", "", ""}, {"", "-", "-", "-"},
		{"-", "-", "1", "1"}, {"1", "1", "-", "-"}, {"1", "1", "2", "2"}, {"-", "-", "", ""}, {"", "", "-", "-"}, {"", "", "1", "1"},
		{"-", "1", "-", "1"}, {"1", "-", "1", "-"}, {"1", "2", "1", "2"}, {"-", "", "-", ""}, {"", "-", "", "-"}, {"", "1", "", "1"},
		{"-", "1", "2", "?"}, {"1", "-", "2", "?"}, {"1", "2", "-", "?"}, {"1", "2", "3", "?"},
		{"-", "", "1", "?"}, {"-", "1", "", "?"}, {"", "-", "1", "?"}, {"1", "-", "", "?"}, {"", "1", "-", "?"}, {"1", "", "-", "?"}, {"", "1", "2", "?"}, {"1", "", "2", "?"},
	} {
		what := strings.Join([]string{x.base, x.ours, x.theirs}, ", ")
		var m three
		var sides [3]api.Side
		for i, word := range []string{x.base, x.ours, x.theirs} {
			if word != "-" {
				m[i], sides[i] = mapOf("p", word), there(word)
			}
		}
		if x.want == "?" {
			conflicts(t, what, m, []api.Conflict{{Path: "p", Base: sides[0], Ours: sides[1], Theirs: sides[2]}}, api.OK)
			merges(t, what, m, edit(), api.Map{}, api.ErrConflict)
			for i, s := range sides {
				by := edit(api.Change{Path: "p", Is: s.Is, Text: s.Text})
				takes(t, what, m, i, by, api.OK)
				merges(t, what, m, by, m[i], api.OK)
			}
			merges(t, what+" by a text of none of the three", m, edit(put("p", "9")), mapOf("p", "9"), api.OK)
			merges(t, what+" by an empty text", m, edit(put("p", "")), mapOf("p", ""), api.OK)
			merges(t, what+" gone", m, edit(gone("p")), api.Map{}, api.OK)
			continue
		}
		var want api.Map
		if x.want != "-" {
			want = mapOf("p", x.want)
		}
		conflicts(t, what, m, nil, api.OK)
		merges(t, what, m, edit(), want, api.OK)
		merges(t, what+", and a resolution", m, edit(put("p", x.want)), api.Map{}, api.ErrConflict)
		takes(t, what, m, 0, edit(), api.OK)
	}
}

// twoApart has the conflicts b and d, and what nobody disputes beside them.
var twoApart = three{mapOf("a", "1", "b", "1", "c", "1", "d", "1"), mapOf("a", "2", "b", "2", "c", "1", "e", "2"), mapOf("a", "1", "b", "3", "c", "3", "d", "3")}

// P7.1: conflicts in the paths' order, with what each of the three has.
func TestConflictsRise(t *testing.T) {
	b := api.Conflict{Path: "b", Base: there("1"), Ours: there("2"), Theirs: there("3")}
	d := api.Conflict{Path: "d", Base: there("1"), Ours: none, Theirs: there("3")}
	conflicts(t, "two", twoApart, []api.Conflict{b, d}, api.OK)
	paths := []string{"!", "a", "a!", "aa", "b", "~"}
	var m three
	var want []api.Conflict
	for _, p := range paths {
		for i := range m {
			m[i] = with(m[i], mapOf(p, strconv.Itoa(i)))
		}
		want = append(want, api.Conflict{Path: p, Base: there("0"), Ours: there("1"), Theirs: there("2")})
		conflicts(t, "up to "+p, m, want, api.OK)
	}
}

// P7.2: edits with a path too few, one too many, another one, all others, those of no conflict.
func TestResolutionsOfOtherPaths(t *testing.T) {
	merges(t, "both", twoApart, edit(put("b", "8"), put("d", "9")), mapOf("a", "2", "b", "8", "c", "3", "d", "9", "e", "2"), api.OK)
	merges(t, "both gone", twoApart, edit(gone("b"), gone("d")), mapOf("a", "2", "c", "3", "e", "2"), api.OK)
	merges(t, "one gone", twoApart, edit(gone("b"), put("d", "")), mapOf("a", "2", "c", "3", "d", "", "e", "2"), api.OK)
	for what, by := range map[string]api.Edit{
		"none":                      edit(),
		"the first alone":           edit(put("b", "8")),
		"the second alone":          edit(put("d", "9")),
		"one ahead":                 edit(gone("a"), put("b", "8"), put("d", "9")),
		"one ahead, of none":        edit(gone("A"), put("b", "8"), put("d", "9")),
		"one between":               edit(put("b", "8"), put("c", "3"), put("d", "9")),
		"one behind":                edit(put("b", "8"), put("d", "9"), put("e", "2")),
		"one behind, of none":       edit(put("b", "8"), put("d", "9"), gone("f")),
		"another first one":         edit(put("a", "8"), put("d", "9")),
		"another second one":        edit(put("b", "8"), put("e", "9")),
		"one that begins like one":  edit(put("b", "8"), put("dd", "9")),
		"both others":               edit(put("a", "8"), put("c", "9")),
		"those of no conflict":      edit(put("a", "2"), put("c", "3"), put("e", "2")),
		"all":                       edit(put("a", "2"), put("b", "8"), put("c", "3"), put("d", "9"), put("e", "2")),
		"both, in capitals":         edit(put("B", "8"), put("D", "9")),
		"as many, of none of three": edit(put("x", "8"), put("y", "9")),
	} {
		merges(t, what, twoApart, by, api.Map{}, api.ErrConflict)
	}
}

// P7.2: 32 rows and 33, without resolutions; rows that are gone are not counted.
func TestMergeToTheLimit(t *testing.T) {
	for n := range 33 {
		ours, theirs := many(0, n, "1"), many(n, 32, "2")
		merges(t, "32 rows", three{{}, ours, theirs}, edit(), with(ours, theirs), api.OK)
		merges(t, "32 rows, changed about", three{{}, theirs, ours}, edit(), with(ours, theirs), api.OK)
		if n > 0 {
			merges(t, "33 rows", three{{}, ours, many(n, 33, "2")}, edit(), api.Map{}, api.ErrFull)
			merges(t, "33 rows, changed about", three{{}, many(n, 33, "2"), ours}, edit(), api.Map{}, api.ErrFull)
		}
	}
	merges(t, "64 rows", three{{}, many(0, 32, "1"), many(32, 64, "1")}, edit(), api.Map{}, api.ErrFull)
	merges(t, "64 rows, and 32 that are gone", three{many(64, 96, "1"), many(0, 32, "1"), many(32, 64, "1")}, edit(), api.Map{}, api.ErrFull)
	base := many(0, 32, "1")
	merges(t, "one for one", three{base, many(1, 33, "1"), base}, edit(), many(1, 33, "1"), api.OK)
	merges(t, "one gone of ours, one more of theirs", three{many(0, 31, "1"), many(1, 32, "1"), with(many(0, 31, "1"), mapOf("z", "1"))}, edit(), with(many(1, 32, "1"), mapOf("z", "1")), api.OK)
	merges(t, "one more of each", three{many(0, 31, "1"), many(0, 32, "1"), with(many(0, 31, "1"), mapOf("z", "1"))}, edit(), api.Map{}, api.ErrFull)
	merges(t, "one more of both", three{many(0, 31, "1"), many(0, 32, "1"), many(0, 32, "1")}, edit(), many(0, 32, "1"), api.OK)
	merges(t, "the longest", three{{}, many(0, 32, text(256)), {}}, edit(), many(0, 32, text(256)), api.OK)
}

// P7.2: 32 rows and 33, with resolutions, that take a row away or lay one; conflicts go ahead of too many rows.
func TestMergeToTheLimitByResolutions(t *testing.T) {
	for n := 1; n <= 16; n++ {
		// The first n conflict; the others are ours' and theirs' alone.
		ours, theirs := with(many(0, n, "1"), many(100, 116, "1")), with(many(0, n, "2"), many(200, 216, "2"))
		m := three{{}, ours, theirs}
		rest := with(many(100, 116, "1"), many(200, 216, "2"))
		merges(t, "32 rows, the conflicts gone", m, manyGone(0, n), rest, api.OK)
		merges(t, "more than 32 rows", m, manyPut(0, n, "3"), api.Map{}, api.ErrFull)
		one := manyGone(0, n)
		one.Rows[n-1] = put(numbered(n-1), "")
		merges(t, "33 rows, by one resolution", m, one, api.Map{}, api.ErrFull)
		merges(t, "too many rows, and no resolutions", m, edit(), api.Map{}, api.ErrConflict)
		merges(t, "too many rows, and one resolution too few", m, manyPut(0, n-1, ""), api.Map{}, api.ErrConflict)
		merges(t, "too many rows, and one too many", m, manyPut(0, n+1, ""), api.Map{}, api.ErrConflict)
	}
	m := three{{}, with(many(0, 1, "1"), many(100, 115, "1")), with(many(0, 1, "2"), many(200, 216, "2"))}
	merges(t, "32 rows with one", m, manyPut(0, 1, "3"), with(many(0, 1, "3"), many(100, 115, "1"), many(200, 216, "2")), api.OK)
	all := three{{}, many(0, 32, "1"), many(0, 32, "2")}
	merges(t, "32 conflicts", all, manyPut(0, 32, text(256)), many(0, 32, text(256)), api.OK)
	merges(t, "32 conflicts gone", all, manyGone(0, 32), api.Map{}, api.OK)
}

// manyApart is three maps with n conflicts, from 32 on: first such as theirs hasn't, then such as ours hasn't, such as base hasn't between.
func manyApart(n int) three {
	return three{with(many(0, 16, "0"), many(32, 48, "0")), many(0, 32, "1"), with(many(16, 32, "2"), many(32, n, "2"))}
}

// P7.1, P7.3: 32 conflicts, and 33, up to 48, of which three maps have no more; Merge of those is ErrConflict whatever the edit.
func TestConflictsToTheLimit(t *testing.T) {
	for n := 32; n <= 48; n++ {
		m, what := manyApart(n), strconv.Itoa(n)+" conflicts"
		var want []api.Conflict
		for i := range n {
			c := api.Conflict{Path: numbered(i), Base: there("0"), Ours: there("1"), Theirs: there("2")}
			switch {
			case i < 16:
				c.Theirs = none
			case i < 32:
				c.Base = none
			default:
				c.Ours = none
			}
			want = append(want, c)
		}
		conflicts(t, what, m, want, api.OK)
		if n == 32 {
			takes(t, what, m, 0, edit(append(manyPut(0, 16, "0").Rows, manyGone(16, 32).Rows...)...), api.OK)
			takes(t, what, m, 1, manyPut(0, 32, "1"), api.OK)
			takes(t, what, m, 2, edit(append(manyGone(0, 16).Rows, manyPut(16, 32, "2").Rows...)...), api.OK)
			continue
		}
		for _, which := range whiches {
			takes(t, what, m, which, edit(), api.ErrEdit)
		}
		merges(t, what, m, manyGone(0, 32), api.Map{}, api.ErrConflict)
		merges(t, what, m, edit(), api.Map{}, api.ErrConflict)
		merges(t, what+", an edit of 33 rows", m, manyGone(0, 33), api.Map{}, api.ErrEdit)
	}
}

// P7.3: which 0, 1, 2, and all others, with a text, an empty one and none.
func TestWhich(t *testing.T) {
	m := three{mapOf("a", "1", "b", "1", "d", "1"), mapOf("a", "", "c", "2", "d", "1"), mapOf("b", "3", "c", "", "d", "3")}
	want := []api.Edit{edit(put("a", "1"), put("b", "1"), gone("c")), edit(put("a", ""), gone("b"), put("c", "2")), edit(gone("a"), put("b", "3"), put("c", ""))}
	for which := -300; which <= 300; which++ {
		e := want[1]
		if which == 0 || which == 2 {
			e = want[which]
		}
		takes(t, "three conflicts", m, which, e, api.OK)
	}
	for _, which := range []int{-1 << 63, 1<<63 - 1, 1 << 32, 1<<32 + 2, 1 << 8, 1<<8 + 2} {
		takes(t, "three conflicts", m, which, want[1], api.OK)
	}
	for which, e := range want {
		made := [][]string{{"a", "1", "b", "1", "d", "3"}, {"a", "", "c", "2", "d", "3"}, {"b", "3", "c", "", "d", "3"}}[which]
		merges(t, "by what is taken", m, e, mapOf(made...), api.OK)
	}
}

// P7.4: the errors of Apply go ahead, then those of Merge.
func TestErrorsOfRebase(t *testing.T) {
	base, onto := mapOf("a", "1", "b", "1"), mapOf("a", "2", "b", "1")
	full, fuller := many(0, 32, "1"), edit(put("z", "1"))
	for i, x := range noMaps {
		what := "the map that may not be " + strconv.Itoa(i)
		rebases(t, what+" as base", x, onto, edit(), api.Map{}, api.ErrMap)
		rebases(t, what+" as onto", base, x, edit(), api.Map{}, api.ErrMap)
		rebases(t, what+" as onto, and a conflict", base, x, edit(put("a", "3")), api.Map{}, api.ErrMap)
		rebases(t, what+" as both", x, x, edit(), api.Map{}, api.ErrMap)
		rebases(t, what+" as onto, and too many rows", full, x, fuller, api.Map{}, api.ErrFull)
		for _, e := range noEdits {
			rebases(t, what+" as base, and an edit that may not be", x, onto, e, api.Map{}, api.ErrMap)
			rebases(t, what+" as both, and an edit that may not be", x, x, e, api.Map{}, api.ErrMap)
			rebases(t, what+" as onto, and an edit that may not be", base, x, e, api.Map{}, api.ErrEdit)
		}
	}
	for i, e := range noEdits {
		what := "the edit that may not be " + strconv.Itoa(i)
		rebases(t, what, base, onto, e, api.Map{}, api.ErrEdit)
		rebases(t, what+", of empty maps", api.Map{}, api.Map{}, e, api.Map{}, api.ErrEdit)
		rebases(t, what+", of a full map", full, full, e, api.Map{}, api.ErrEdit)
	}
}

// P7.4: an edit that makes too many rows; a merge that has too many, that conflicts, that conflicts and would have too many.
func TestRebasesThatFail(t *testing.T) {
	full, onto := many(0, 32, "1"), many(1, 32, "1")
	rebases(t, "33 rows of base", full, onto, edit(put("z", "1")), api.Map{}, api.ErrFull)
	rebases(t, "33 rows of base, and a conflict", full, onto, edit(put(numbered(0), "2"), put("z", "1")), api.Map{}, api.ErrFull)
	rebases(t, "one for one", full, full, edit(gone(numbered(0)), put("z", "1")), with(onto, mapOf("z", "1")), api.OK)
	rebases(t, "one for one, of which onto lacks one", full, onto, edit(gone(numbered(0)), put("z", "1")), with(onto, mapOf("z", "1")), api.OK)
	rebases(t, "33 rows of the merge", onto, full, edit(put("z", "1")), api.Map{}, api.ErrFull)
	rebases(t, "32 rows of the merge", onto, many(1, 32, "2"), edit(put("z", "1")), with(many(1, 32, "2"), mapOf("z", "1")), api.OK)
	base, other := mapOf("a", "1", "b", "1"), mapOf("a", "2", "c", "2")
	rebases(t, "another text on both", base, other, edit(put("a", "3")), api.Map{}, api.ErrConflict)
	rebases(t, "gone, and another text", base, other, edit(put("b", "3")), api.Map{}, api.ErrConflict)
	rebases(t, "another text, and gone", base, other, edit(gone("a")), api.Map{}, api.ErrConflict)
	rebases(t, "new on both", base, other, edit(put("c", "3")), api.Map{}, api.ErrConflict)
	rebases(t, "the same text on both", base, other, edit(put("a", "2")), other, api.OK)
	rebases(t, "gone on both", base, other, edit(gone("b")), other, api.OK)
	rebases(t, "new on both, the same", base, other, edit(put("c", "2")), other, api.OK)
	rebases(t, "what was there", base, other, edit(put("a", "1"), put("b", "1")), other, api.OK)
	rebases(t, "gone, that never was", base, other, edit(gone("c")), other, api.OK)
	rebases(t, "no rows", base, other, edit(), other, api.OK)
	rebases(t, "a new one", base, other, edit(put("d", "4")), mapOf("a", "2", "c", "2", "d", "4"), api.OK)
	rebases(t, "a conflict, and too many rows", api.Map{}, many(0, 32, "1"), edit(put(numbered(0), "2"), put("z", "1")), api.Map{}, api.ErrConflict)
}

// P7.5: a rebase onto base is what the edit makes of base; onto what the edit makes of it, that too.
func TestRebaseOntoBase(t *testing.T) {
	full := many(0, 32, "1")
	for _, x := range []struct {
		base api.Map
		e    api.Edit
		want api.Map
	}{
		{api.Map{}, edit(), api.Map{}},
		{api.Map{}, edit(gone("a")), api.Map{}},
		{api.Map{}, edit(put("a", "")), mapOf("a", "")},
		{api.Map{}, manyPut(0, 32, "1"), full},
		{mapOf("a", "1", "b", "1"), edit(gone("a"), put("c", "3")), mapOf("b", "1", "c", "3")},
		{mapOf("a", "1", "b", "1"), edit(put("a", "2"), put("b", "")), mapOf("a", "2", "b", "")},
		{full, manyGone(0, 32), api.Map{}},
		{full, manyPut(0, 32, "2"), many(0, 32, "2")},
		{full, edit(put(numbered(31), text(256))), with(many(0, 31, "1"), mapOf(numbered(31), text(256)))},
	} {
		rebases(t, "onto base", x.base, x.base, x.e, x.want, api.OK)
		rebases(t, "onto what the edit makes", x.base, x.want, x.e, x.want, api.OK)
	}
}

// P7.5: by hand, at the limits.
func TestWhatFollows(t *testing.T) {
	list := []api.Map{{}, mapOf("a", "1"), mapOf("a", "", "b", "2"), mapOf(text(48), text(256)), many(0, 32, "1"), many(0, 32, "2"), many(1, 32, "1"), many(16, 48, "1"), many(31, 63, "1")}
	for i, base := range list {
		for k, ours := range list {
			for l, theirs := range list {
				follows(t, "maps "+strconv.Itoa(i)+", "+strconv.Itoa(k)+", "+strconv.Itoa(l), three{base, ours, theirs})
			}
		}
	}
}

// R3: lists that were answered may grow and change, and neither another answer nor what was handed in is changed.
func TestMemoryOfItsOwn(t *testing.T) {
	m := three{mapOf("a", "1"), mapOf("a", "2", "b", "2"), mapOf("a", "3")}
	by := edit(put("a", "9"))
	first, _ := merge.Conflicts(m[0], m[1], m[2])
	second, _ := merge.Conflicts(m[0], m[1], m[2])
	first[0] = api.Conflict{}
	has(t, "the other conflicts", second, []api.Conflict{{Path: "a", Base: there("1"), Ours: there("2"), Theirs: there("3")}})
	made, _ := merge.Merge(m[0], m[1], m[2], by)
	other, _ := merge.Merge(m[0], m[1], m[2], by)
	same, _ := merge.Merge(m[1], m[1], m[1], edit())
	made.Rows[0].Text, same.Rows[0].Text = "x", "x"
	_ = append(made.Rows[:1], api.Row{Path: "x"})
	_ = append(same.Rows[:1], api.Row{Path: "x"})
	has(t, "the other merge", other.Rows, mapOf("a", "9", "b", "2").Rows)
	taken, _ := merge.Take(m[0], m[1], m[2], 2)
	again, _ := merge.Take(m[0], m[1], m[2], 2)
	taken.Rows[0].Text = "x"
	has(t, "the other edit", again.Rows, []api.Change{put("a", "3")})
	moved, _ := merge.Rebase(m[1], m[1], edit())
	moved.Rows[0].Text = "x"
	has(t, "base", m[0].Rows, mapOf("a", "1").Rows)
	has(t, "ours", m[1].Rows, mapOf("a", "2", "b", "2").Rows)
	has(t, "theirs", m[2].Rows, mapOf("a", "3").Rows)
	has(t, "the edit", by.Rows, []api.Change{put("a", "9")})
}

// R1: lists far beyond each limit: every call ends.
func TestLongLists(t *testing.T) {
	var m api.Map
	var e api.Edit
	for i := range 200000 {
		p := strconv.Itoa(1000000 + i)
		m.Rows, e.Rows = append(m.Rows, api.Row{Path: p}), append(e.Rows, gone(p))
	}
	_, err := merge.Conflicts(api.Map{}, api.Map{}, m)
	is(t, "Conflicts", err, api.ErrMap)
	_, err = merge.Merge(api.Map{}, m, api.Map{}, e)
	is(t, "Merge of a long map", err, api.ErrMap)
	_, err = merge.Merge(api.Map{}, api.Map{}, api.Map{}, e)
	is(t, "Merge by a long edit", err, api.ErrEdit)
	_, err = merge.Take(m, m, m, 2)
	is(t, "Take", err, api.ErrMap)
	_, err = merge.Rebase(api.Map{}, api.Map{}, e)
	is(t, "Rebase of a long edit", err, api.ErrEdit)
	_, err = merge.Rebase(api.Map{}, m, api.Edit{})
	is(t, "Rebase onto a long map", err, api.ErrMap)
}
