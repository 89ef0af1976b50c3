package pathmap_test

import (
	"slices"
	"strconv"
	"strings"
	"testing"

	"confluence/api"
	"confluence/pathmap"
)

// text is a text of n bytes.
func text(n int) string {
	return strings.Repeat("x", n)
}

// mapOf is a map of a path, a text, a path, a text.
func mapOf(parts ...string) api.Map {
	var m api.Map
	for i := 0; i < len(parts); i += 2 {
		m.Rows = append(m.Rows, api.Row{Path: parts[i], Text: parts[i+1]})
	}
	return m
}

// put is the change that a text is there, gone the one that none is.
func put(path, text string) api.Change { return api.Change{Path: path, Is: true, Text: text} }
func gone(path string) api.Change      { return api.Change{Path: path} }

// edit is an edit of these changes.
func edit(rows ...api.Change) api.Edit { return api.Edit{Rows: rows} }

// numbered is the path of a number from 0 to 999: they rise as the numbers do.
func numbered(i int) string {
	return "p" + strconv.Itoa(1000 + i)[1:]
}

// many is a map of all the paths from one number to ahead of another one, with one text.
func many(from, to int, text string) api.Map {
	var m api.Map
	for i := from; i < to; i++ {
		m.Rows = append(m.Rows, api.Row{Path: numbered(i), Text: text})
	}
	return m
}

// manyPut and manyGone are edits of such paths.
func manyPut(from, to int, text string) api.Edit {
	var e api.Edit
	for i := from; i < to; i++ {
		e.Rows = append(e.Rows, put(numbered(i), text))
	}
	return e
}

func manyGone(from, to int) api.Edit {
	var e api.Edit
	for i := from; i < to; i++ {
		e.Rows = append(e.Rows, gone(numbered(i)))
	}
	return e
}

// is fails the test if an error is another one.
func is(t *testing.T, what string, got, want api.Errno) {
	t.Helper()
	if got != want {
		t.Errorf("%s: error %d, not %d", what, got, want)
	}
}

// has fails the test if rows are others than these, whatever the program says of it.
func has[R comparable](t *testing.T, what string, got, want []R) {
	t.Helper()
	if !slices.Equal(got, want) {
		t.Errorf("%s: %v, not %v", what, got, want)
	}
}

// behind is how many rows stand behind the end of a list that is roomy.
const behind = 40

// roomy is a list with room behind its end, which is full of what is no row of any.
func roomy[R any](rows []R, odd R) []R {
	whole := slices.Clone(rows)
	for range behind {
		whole = append(whole, odd)
	}
	return whole[:len(rows)]
}

// untouched fails the test if a roomy list, or the room behind its end, is not as it was.
func untouched[R comparable](t *testing.T, what string, rows, were []R, odd R) {
	t.Helper()
	has(t, what+": what was handed in", rows, were)
	for _, r := range rows[len(rows) : len(rows)+behind] {
		if r != odd {
			t.Errorf("%s: the room behind what was handed in: %v", what, r)
		}
	}
}

// oddRow and oddChange are what the room is full of.
var (
	oddRow    = api.Row{Path: "odd", Text: "odd"}
	oddChange = api.Change{Path: "odd", Text: "odd"}
)

// applies fails the test if Apply answers something else, changes what it is handed, or shares memory with it.
func applies(t *testing.T, what string, m api.Map, e api.Edit, want api.Map, err api.Errno) {
	t.Helper()
	what += ": Apply"
	in, by := api.Map{Rows: roomy(m.Rows, oddRow)}, api.Edit{Rows: roomy(e.Rows, oddChange)}
	got, no := pathmap.Apply(in, by)
	is(t, what, no, err)
	untouched(t, what, in.Rows, m.Rows, oddRow)
	untouched(t, what, by.Rows, e.Rows, oddChange)
	clear(in.Rows)
	clear(by.Rows)
	has(t, what, got.Rows, want.Rows)
	if again, no := pathmap.Apply(m, e); no != err || !slices.Equal(again.Rows, want.Rows) {
		t.Errorf("%s again: %v and error %d, not %v and %d", what, again, no, want, err)
	}
	clear(got.Rows[:cap(got.Rows)])
	untouched(t, what, in.Rows, make([]api.Row, len(m.Rows)), oddRow)
}

// differs fails the test if Diff answers something else, changes what it is handed, or shares memory with it.
func differs(t *testing.T, what string, a, b api.Map, want api.Edit, err api.Errno) {
	t.Helper()
	what += ": Diff"
	from, to := api.Map{Rows: roomy(a.Rows, oddRow)}, api.Map{Rows: roomy(b.Rows, oddRow)}
	got, no := pathmap.Diff(from, to)
	is(t, what, no, err)
	untouched(t, what, from.Rows, a.Rows, oddRow)
	untouched(t, what, to.Rows, b.Rows, oddRow)
	clear(from.Rows)
	clear(to.Rows)
	has(t, what, got.Rows, want.Rows)
	if again, no := pathmap.Diff(a, b); no != err || !slices.Equal(again.Rows, want.Rows) {
		t.Errorf("%s again: %v and error %d, not %v and %d", what, again, no, want, err)
	}
}

// leads fails the test if Paths of these maps answers something else, or changes them or their list.
func leads(t *testing.T, what string, want []string, l ...api.Map) {
	t.Helper()
	what += ": Paths"
	in := make([]api.Map, len(l), len(l)+1)
	for i, m := range l {
		in[i].Rows = roomy(m.Rows, oddRow)
	}
	got := pathmap.Paths(in...)
	if len(in[:cap(in)][len(l)].Rows) > 0 {
		t.Errorf("%s: the room behind the list has rows", what)
	}
	for i, m := range l {
		untouched(t, what, in[i].Rows, m.Rows, oddRow)
		clear(in[i].Rows)
	}
	clear(in)
	has(t, what, got, want)
	has(t, what+" again", pathmap.Paths(l...), want)
}

// gets fails the test if Get answers something else, or changes the map.
func gets(t *testing.T, what string, m api.Map, path, text string, there bool) {
	t.Helper()
	what += ": Get of " + strconv.Quote(path)
	in := api.Map{Rows: roomy(m.Rows, oddRow)}
	got, ok := pathmap.Get(in, path)
	if got != text || ok != there {
		t.Errorf("%s: %q and %v, not %q and %v", what, got, ok, text, there)
	}
	untouched(t, what, in.Rows, m.Rows, oddRow)
}

// checks fails the test if Check answers something else, or changes the map; checksEdit likewise.
func checks(t *testing.T, what string, m api.Map, want api.Errno) {
	t.Helper()
	in := api.Map{Rows: roomy(m.Rows, oddRow)}
	is(t, what+": Check", pathmap.Check(in), want)
	untouched(t, what+": Check", in.Rows, m.Rows, oddRow)
}

func checksEdit(t *testing.T, what string, e api.Edit, want api.Errno) {
	t.Helper()
	in := api.Edit{Rows: roomy(e.Rows, oddChange)}
	is(t, what+": CheckEdit", pathmap.CheckEdit(in), want)
	untouched(t, what+": CheckEdit", in.Rows, e.Rows, oddChange)
}

// P5.1 to P5.4: the chapter's examples.
func TestExamples(t *testing.T) {
	a, b := mapOf("a", "1", "b", "2"), mapOf("a", "1", "c", "3")
	e := edit(gone("b"), put("c", "3"))
	applies(t, "example", a, e, b, api.OK)
	differs(t, "example", a, b, e, api.OK)
	checks(t, "b, a", mapOf("b", "", "a", ""), api.ErrMap)
	checksEdit(t, "a gone with a text", edit(api.Change{Path: "a", Text: "1"}), api.ErrEdit)
	checks(t, "an empty path", mapOf("", ""), api.ErrMap)
	gets(t, "a: 1", mapOf("a", "1"), "b", "", false)
	leads(t, "example", []string{"a", "b"}, mapOf("a", "1"), mapOf("b", "2", "a", "0"))
}

// onePath fails the test if a path may be, or may not be, alone, ahead of another one and behind one, in a map and in an edit.
func onePath(t *testing.T, path string, may bool) {
	t.Helper()
	wrongMap, wrongEdit := api.ErrMap, api.ErrEdit
	if may {
		wrongMap, wrongEdit = api.OK, api.OK
	}
	what := "the path " + strconv.Quote(path)
	checks(t, what, mapOf(path, "1"), wrongMap)
	checksEdit(t, what, edit(put(path, "1")), wrongEdit)
	checksEdit(t, what+" gone", edit(gone(path)), wrongEdit)
	if path < "m" {
		checks(t, what+", m", mapOf(path, "", "m", ""), wrongMap)
		checksEdit(t, what+", m", edit(put(path, ""), put("m", "")), wrongEdit)
	} else {
		checks(t, "l, "+what, mapOf("l", "", path, ""), wrongMap)
		checksEdit(t, "l, "+what, edit(put("l", ""), gone(path)), wrongEdit)
	}
}

// P5.1: paths of 0, 1, 48 and 49 bytes; each byte that there is, alone, first, in the middle and last.
func TestWhatIsAPath(t *testing.T) {
	for _, n := range []int{0, 1, 2, 47, 48, 49, 50, 96, 1000} {
		for _, sign := range []string{"!", "a", "~"} {
			onePath(t, strings.Repeat(sign, n), n >= 1 && n <= 48)
		}
	}
	for b := range 256 {
		sign, may := string([]byte{byte(b)}), b >= 33 && b <= 126
		for _, path := range []string{sign, sign + "k", "k" + sign + "k", "k" + sign, strings.Repeat("k", 47) + sign} {
			onePath(t, path, may)
		}
	}
	for _, path := range []string{" ", "a b", "a\x7f", "é", "日", "\u00a0", "a\n", "\x00"} {
		onePath(t, path, false)
	}
}

// oneText fails the test if a text may be, or may not be, in the first row, the last one and one between.
func oneText(t *testing.T, what, s string, may bool) {
	t.Helper()
	wrongMap, wrongEdit := api.ErrMap, api.ErrEdit
	if may {
		wrongMap, wrongEdit = api.OK, api.OK
	}
	for i := range 3 {
		texts := []string{"", "", ""}
		texts[i] = s
		checks(t, what, mapOf("a", texts[0], "b", texts[1], "c", texts[2]), wrongMap)
		checksEdit(t, what, edit(put("a", texts[0]), put("b", texts[1]), put("c", texts[2])), wrongEdit)
	}
}

// P5.1: texts of 256 and 257 bytes, counted as bytes; each byte may stand in one.
func TestWhatIsAText(t *testing.T) {
	for _, n := range []int{0, 1, 255, 256, 257, 258, 512, 100000} {
		oneText(t, "a text of "+strconv.Itoa(n)+" bytes", text(n), n <= 256)
	}
	oneText(t, "256 bytes of 128 signs", strings.Repeat("é", 128), true)
	oneText(t, "258 bytes of 129 signs", strings.Repeat("é", 129), false)
	for b := range 256 {
		oneText(t, "the byte "+strconv.Itoa(b), string([]byte{byte(b)}), true)
	}
}

// P5.1: 32 and 33 rows.
func TestHowManyRows(t *testing.T) {
	for _, n := range []int{0, 1, 31, 32, 33, 34, 64, 65, 900} {
		what, wrongMap, wrongEdit := strconv.Itoa(n)+" rows", api.OK, api.OK
		if n > 32 {
			wrongMap, wrongEdit = api.ErrMap, api.ErrEdit
		}
		checks(t, what, many(0, n, text(256)), wrongMap)
		checksEdit(t, what, manyPut(0, n, text(256)), wrongEdit)
		checksEdit(t, what+" gone", manyGone(0, n), wrongEdit)
	}
	checks(t, "no list", api.Map{}, api.OK)
	checks(t, "an empty list", api.Map{Rows: []api.Row{}}, api.OK)
	checksEdit(t, "no list", api.Edit{}, api.OK)
	checksEdit(t, "an empty list", api.Edit{Rows: []api.Change{}}, api.OK)
}

// along is a map and an edit whose rows have these paths, in this order.
func along(paths []string) (api.Map, api.Edit) {
	var m api.Map
	var e api.Edit
	for _, p := range paths {
		m.Rows, e.Rows = append(m.Rows, api.Row{Path: p}), append(e.Rows, gone(p))
	}
	return m, e
}

// P5.1: paths rise byte by byte, and none stands twice, wherever in the list.
func TestPathsThatRise(t *testing.T) {
	for _, l := range [][]string{{"a", "b"}, {"a", "aa"}, {"!", "~"}, {"Z", "a"}, {"a~", "b"}, {"a", "a!", "aa", "b"}, {"10", "9"}} {
		what := strings.Join(l, ", ")
		m, e := along(l)
		checks(t, what, m, api.OK)
		checksEdit(t, what, e, api.OK)
		for i, p := range l {
			m, e := along(l)
			m.Rows, e.Rows = slices.Insert(m.Rows, i, api.Row{Path: p, Text: "1"}), slices.Insert(e.Rows, i, put(p, "1"))
			checks(t, what+" and one twice", m, api.ErrMap)
			checksEdit(t, what+" and one twice", e, api.ErrEdit)
		}
		slices.Reverse(l)
		m, e = along(l)
		checks(t, what+" falling", m, api.ErrMap)
		checksEdit(t, what+" falling", e, api.ErrEdit)
	}
	for i := range 31 {
		m, e := many(0, 32, "1"), manyPut(0, 32, "1")
		m.Rows[i], m.Rows[i+1] = m.Rows[i+1], m.Rows[i]
		e.Rows[i], e.Rows[i+1] = e.Rows[i+1], e.Rows[i]
		checks(t, "two of 32 changed about", m, api.ErrMap)
		checksEdit(t, "two of 32 changed about", e, api.ErrEdit)
	}
	checks(t, "one twice, apart", mapOf("a", "1", "b", "1", "a", "1"), api.ErrMap)
	checksEdit(t, "one twice, apart", edit(gone("a"), gone("b"), gone("a")), api.ErrEdit)
	checksEdit(t, "gone, and there", edit(gone("a"), put("a", "1")), api.ErrEdit)
}

// P5.1: a change that takes its path away has no text; one that lays a text may have an empty one.
func TestChangesWithAText(t *testing.T) {
	for _, s := range []string{"x", " ", "\x00", text(256), text(257)} {
		for i := range 3 {
			e := edit(put("a", "1"), gone("b"), put("c", ""))
			e.Rows[i].Is, e.Rows[i].Text = false, s
			checksEdit(t, "gone with a text", e, api.ErrEdit)
		}
	}
	checksEdit(t, "an empty text", edit(put("a", "")), api.OK)
	checksEdit(t, "gone without", edit(gone("a")), api.OK)
}

// P5.1: the same rows: as many, each with the same fields, in the same order, whether they may be or not.
func TestSame(t *testing.T) {
	base := []api.Row{{Path: "a", Text: "1"}, {Path: "b", Text: "2"}}
	same := func(what string, rows []api.Row, want bool) {
		t.Helper()
		in, other := roomy(rows, oddRow), roomy(base, oddRow)
		if pathmap.Same(api.Map{Rows: other}, api.Map{Rows: in}) != want || pathmap.Same(api.Map{Rows: in}, api.Map{Rows: other}) != want {
			t.Errorf("Same of %s: not %v", what, want)
		}
		untouched(t, "Same", in, rows, oddRow)
		untouched(t, "Same", other, base, oddRow)
	}
	same("the same", slices.Clone(base), true)
	same("another path", mapOf("a", "1", "c", "2").Rows, false)
	same("another first path", mapOf("A", "1", "b", "2").Rows, false)
	same("another text", mapOf("a", "1", "b", "3").Rows, false)
	same("another first text", mapOf("a", "", "b", "2").Rows, false)
	same("fewer", base[:1], false)
	same("none", nil, false)
	same("more", append(slices.Clone(base), api.Row{}), false)
	same("another order", mapOf("b", "2", "a", "1").Rows, false)
	for _, rows := range [][]api.Row{mapOf("b", "2", "a", "1").Rows, mapOf("", text(300)).Rows, many(0, 40, "1").Rows} {
		if !pathmap.Same(api.Map{Rows: rows}, api.Map{Rows: slices.Clone(rows)}) {
			t.Errorf("Same of a map that may not be: not true")
		}
	}
	if !pathmap.Same(api.Map{}, api.Map{Rows: []api.Row{}}) || !pathmap.Same(api.Map{Rows: []api.Row{}}, api.Map{}) {
		t.Errorf("Same of no list and an empty one: not true")
	}
}

// P5.1: the same of edits.
func TestSameEdit(t *testing.T) {
	base := []api.Change{put("a", ""), gone("b")}
	same := func(what string, want bool, rows ...api.Change) {
		t.Helper()
		in, other := roomy(rows, oddChange), roomy(base, oddChange)
		if pathmap.SameEdit(api.Edit{Rows: other}, api.Edit{Rows: in}) != want || pathmap.SameEdit(api.Edit{Rows: in}, api.Edit{Rows: other}) != want {
			t.Errorf("SameEdit of %s: not %v", what, want)
		}
		untouched(t, "SameEdit", in, rows, oddChange)
		untouched(t, "SameEdit", other, base, oddChange)
	}
	same("the same", true, put("a", ""), gone("b"))
	same("gone for an empty text", false, gone("a"), gone("b"))
	same("an empty text for gone", false, put("a", ""), put("b", ""))
	same("another text", false, put("a", "1"), gone("b"))
	same("a text beside gone", false, put("a", ""), api.Change{Path: "b", Text: "1"})
	same("another path", false, put("a", ""), gone("c"))
	same("fewer", false, put("a", ""))
	same("none", false)
	same("more", false, put("a", ""), gone("b"), gone("c"))
	same("another order", false, gone("b"), put("a", ""))
	odd := []api.Change{{Path: "", Text: "1"}, {Path: "", Text: text(300)}}
	if !pathmap.SameEdit(api.Edit{Rows: odd}, api.Edit{Rows: slices.Clone(odd)}) {
		t.Errorf("SameEdit of an edit that may not be: not true")
	}
	if !pathmap.SameEdit(api.Edit{}, api.Edit{Rows: []api.Change{}}) || !pathmap.SameEdit(api.Edit{Rows: []api.Change{}}, api.Edit{}) {
		t.Errorf("SameEdit of no list and an empty one: not true")
	}
}

// P5.2: the text of a path; none; an empty text, which is one.
func TestGet(t *testing.T) {
	m := mapOf("a", "1", "aa", "", "b", text(256))
	gets(t, "first", m, "a", "1", true)
	gets(t, "an empty text", m, "aa", "", true)
	gets(t, "last", m, "b", text(256), true)
	for _, path := range []string{"", "A", "a ", "ab", "c", "!", "~", text(49)} {
		gets(t, "none", m, path, "", false)
	}
	gets(t, "no list", api.Map{}, "a", "", false)
	gets(t, "no list", api.Map{}, "", "", false)
	gets(t, "an empty list", api.Map{Rows: []api.Row{}}, "a", "", false)
	for i := range 32 {
		gets(t, "32 rows", many(0, 32, "1"), numbered(i), "1", true)
	}
	gets(t, "32 rows", many(0, 32, "1"), numbered(32), "", false)
}

// P5.2: Get of maps that may not be: the first row with the path, whatever stands about it.
func TestGetOfWhatMayNotBe(t *testing.T) {
	falls := mapOf("b", "1", "a", "2", "b", "3", "c", "4", "a", "5")
	gets(t, "falling", falls, "a", "2", true)
	gets(t, "falling", falls, "b", "1", true)
	gets(t, "falling", falls, "c", "4", true)
	gets(t, "falling", falls, "d", "", false)
	gets(t, "an empty text ahead of another one", mapOf("a", "", "a", "1"), "a", "", true)
	gets(t, "an empty path", mapOf("a", "1", "", "2"), "", "2", true)
	gets(t, "a long path", mapOf(text(49), "1"), text(49), "1", true)
	gets(t, "a blank", mapOf(" ", "1"), " ", "1", true)
	gets(t, "a long text", mapOf("a", text(257)), "a", text(257), true)
	gets(t, "100 rows", many(0, 100, "1"), numbered(99), "1", true)
}

// P5.2: the paths of all maps, rising byte by byte, none twice.
func TestPaths(t *testing.T) {
	leads(t, "no map", nil)
	leads(t, "no rows", nil, api.Map{}, api.Map{Rows: []api.Row{}})
	leads(t, "one", []string{"a", "b"}, mapOf("a", "1", "b", "2"))
	leads(t, "the same twice", []string{"a", "b"}, mapOf("a", "1", "b", "2"), mapOf("a", "1", "b", "2"))
	leads(t, "apart", []string{"a", "b", "c", "d"}, mapOf("b", "1", "d", "2"), api.Map{}, mapOf("a", "3", "c", "4"))
	leads(t, "three", []string{"!", "A", "a", "a!", "aa", "~"}, mapOf("aa", "1", "~", "2"), mapOf("A", "", "a", ""), mapOf("!", "", "a!", "", "aa", ""))
	var l []api.Map
	var want []string
	for i := range 100 {
		l = append(l, many(99-i, 100-i, "1"))
		want = append(want, numbered(i))
	}
	leads(t, "100 maps", want, l...)
}

// P5.2: Paths of maps that may not be: each path that stands in one, whatever it is.
func TestPathsOfWhatMayNotBe(t *testing.T) {
	leads(t, "falling", []string{"a", "b"}, mapOf("b", "1", "a", "2"))
	leads(t, "twice", []string{"a", "b"}, mapOf("b", "1", "b", "2", "a", "1", "b", "1"))
	leads(t, "no paths", []string{"", " ", "a", text(49), "\xff"}, mapOf("\xff", "", text(49), text(300)), mapOf(" ", "", "a", "", "", "", "", ""))
	var want []string
	for i := range 900 {
		want = append(want, numbered(i))
	}
	leads(t, "900 rows", want, many(0, 900, "1"))
}

// P5.3: what an edit makes of a map: ahead of its paths, between them and behind them.
func TestApply(t *testing.T) {
	m := mapOf("b", "1", "d", "2", "f", "3")
	for _, x := range []struct {
		what string
		by   api.Edit
		want api.Map
	}{
		{"nothing", edit(), m},
		{"one ahead", edit(put("a", "9")), mapOf("a", "9", "b", "1", "d", "2", "f", "3")},
		{"one between", edit(put("c", "9")), mapOf("b", "1", "c", "9", "d", "2", "f", "3")},
		{"one behind", edit(put("g", "9")), mapOf("b", "1", "d", "2", "f", "3", "g", "9")},
		{"another text", edit(put("d", "9")), mapOf("b", "1", "d", "9", "f", "3")},
		{"an empty text", edit(put("d", "")), mapOf("b", "1", "d", "", "f", "3")},
		{"the same text", edit(put("d", "2")), m},
		{"the first gone", edit(gone("b")), mapOf("d", "2", "f", "3")},
		{"the last gone", edit(gone("f")), mapOf("b", "1", "d", "2")},
		{"all gone", edit(gone("b"), gone("d"), gone("f")), api.Map{}},
		{"gone that are not there", edit(gone("a"), gone("c"), gone("e"), gone("g")), m},
		{"some of each", edit(put("a", "9"), gone("b"), gone("c"), put("d", ""), put("e", "8"), put("f", "3"), gone("g"), put("h", "7")), mapOf("a", "9", "d", "", "e", "8", "f", "3", "h", "7")},
	} {
		applies(t, x.what, m, x.by, x.want, api.OK)
	}
	applies(t, "of nothing", api.Map{}, edit(gone("a"), put("b", "1")), mapOf("b", "1"), api.OK)
	applies(t, "of nothing, nothing", api.Map{}, api.Edit{}, api.Map{}, api.OK)
	applies(t, "empty lists", api.Map{Rows: []api.Row{}}, api.Edit{Rows: []api.Change{}}, api.Map{}, api.OK)
}

// wrongMaps and wrongEdits are those that may not be.
func wrongMaps() []api.Map {
	return []api.Map{mapOf("b", "1", "a", "1"), mapOf("a", "1", "a", "1"), mapOf("", "1"), mapOf("a b", "1"), mapOf(text(49), "1"), mapOf("a", text(257)), many(0, 33, "1")}
}

func wrongEdits() []api.Edit {
	return []api.Edit{edit(put("b", "1"), put("a", "1")), edit(gone("a"), gone("a")), edit(gone("")), edit(put("\x7f", "1")), edit(gone(text(49))), edit(put("a", text(257))), edit(api.Change{Path: "a", Text: "1"}), manyGone(0, 33)}
}

// P5.3: a map and an edit that may not be; the map's error goes ahead, and both go ahead of ErrFull.
func TestApplyOfWhatMayNotBe(t *testing.T) {
	full := manyPut(32, 64, "1")
	for _, m := range wrongMaps() {
		applies(t, "a wrong map", m, api.Edit{}, api.Map{}, api.ErrMap)
		applies(t, "a wrong map, and an edit that takes it all away", m, edit(gone("a"), gone("b")), api.Map{}, api.ErrMap)
		applies(t, "a wrong map, and a long edit", m, full, api.Map{}, api.ErrMap)
		for _, e := range wrongEdits() {
			applies(t, "both wrong", m, e, api.Map{}, api.ErrMap)
		}
	}
	for _, e := range wrongEdits() {
		applies(t, "a wrong edit", mapOf("a", "1"), e, api.Map{}, api.ErrEdit)
		applies(t, "a wrong edit of nothing", api.Map{}, e, api.Map{}, api.ErrEdit)
		applies(t, "a wrong edit of a long map", many(0, 32, "1"), e, api.Map{}, api.ErrEdit)
	}
	applies(t, "a wrong edit that would be too much", many(0, 32, "1"), manyPut(32, 65, "1"), api.Map{}, api.ErrEdit)
}

// P5.3: what comes of an edit has 32 rows, and 33.
func TestApplyToTheLimit(t *testing.T) {
	for n := range 33 {
		what := strconv.Itoa(n) + " rows"
		m := many(0, n, "1")
		applies(t, what+" up to 32", m, manyPut(n, 32, "1"), many(0, 32, "1"), api.OK)
		if n > 0 {
			applies(t, what+" up to 33", m, manyPut(n, 33, "1"), api.Map{}, api.ErrFull)
		}
		e := manyPut(0, 32, "2")
		applies(t, what+" under 32 others", m, e, many(0, 32, "2"), api.OK)
	}
	applies(t, "64 rows", many(0, 32, "1"), manyPut(32, 64, "1"), api.Map{}, api.ErrFull)
	applies(t, "one ahead of 32", many(1, 33, "1"), manyPut(0, 1, "1"), api.Map{}, api.ErrFull)
	applies(t, "the first of 32 gone, one behind", many(0, 32, "1"), edit(gone(numbered(0)), put(numbered(32), "1")), many(1, 33, "1"), api.OK)
	applies(t, "one ahead, the last of 32 gone", many(1, 33, "1"), edit(put(numbered(0), "1"), gone(numbered(32))), many(0, 32, "1"), api.OK)
	applies(t, "32 gone", many(0, 32, "1"), manyGone(0, 32), api.Map{}, api.OK)
	applies(t, "32 gone that are not there", many(0, 32, "1"), manyGone(32, 64), many(0, 32, "1"), api.OK)
}

// P5.4: what is changed: ahead of a map's paths, between them and behind them.
func TestDiff(t *testing.T) {
	a := mapOf("b", "1", "d", "2", "f", "3")
	for _, x := range []struct {
		what string
		to   api.Map
		want api.Edit
	}{
		{"the same", mapOf("b", "1", "d", "2", "f", "3"), edit()},
		{"one ahead", mapOf("a", "9", "b", "1", "d", "2", "f", "3"), edit(put("a", "9"))},
		{"one between", mapOf("b", "1", "c", "", "d", "2", "f", "3"), edit(put("c", ""))},
		{"one behind", mapOf("b", "1", "d", "2", "f", "3", "g", "9"), edit(put("g", "9"))},
		{"another text", mapOf("b", "1", "d", "9", "f", "3"), edit(put("d", "9"))},
		{"an empty text", mapOf("b", "", "d", "2", "f", "3"), edit(put("b", ""))},
		{"the first gone", mapOf("d", "2", "f", "3"), edit(gone("b"))},
		{"the last gone", mapOf("b", "1", "d", "2"), edit(gone("f"))},
		{"all gone", api.Map{}, edit(gone("b"), gone("d"), gone("f"))},
		{"all others", mapOf("a", "1", "c", "2", "e", "3", "g", "4"), edit(put("a", "1"), gone("b"), put("c", "2"), gone("d"), put("e", "3"), gone("f"), put("g", "4"))},
	} {
		differs(t, x.what, a, x.to, x.want, api.OK)
	}
	differs(t, "from nothing", api.Map{}, a, edit(put("b", "1"), put("d", "2"), put("f", "3")), api.OK)
	differs(t, "an empty text gone", mapOf("a", ""), api.Map{}, edit(gone("a")), api.OK)
	differs(t, "an empty text there", api.Map{}, mapOf("a", ""), edit(put("a", "")), api.OK)
	differs(t, "of nothing", api.Map{}, api.Map{Rows: []api.Row{}}, edit(), api.OK)
}

// P5.4: maps that may not be, in each place, ahead of a difference that is too long.
func TestDiffOfWhatMayNotBe(t *testing.T) {
	long := many(100, 132, "1")
	for _, m := range wrongMaps() {
		differs(t, "the first wrong", m, mapOf("a", "1"), edit(), api.ErrMap)
		differs(t, "the second wrong", mapOf("a", "1"), m, edit(), api.ErrMap)
		differs(t, "both wrong", m, m, edit(), api.ErrMap)
		differs(t, "the first wrong, the second long", m, long, edit(), api.ErrMap)
		differs(t, "the second wrong, the first long", long, m, edit(), api.ErrMap)
	}
}

// P5.4: a difference of 32 rows, and of 33.
func TestDiffToTheLimit(t *testing.T) {
	for n := range 33 {
		want := manyGone(0, n)
		want.Rows = append(want.Rows, manyPut(n, 32, "1").Rows...)
		differs(t, "32 rows", many(0, n, "1"), many(n, 32, "1"), want, api.OK)
		if n > 0 {
			differs(t, "33 rows", many(0, n, "1"), many(n, 33, "1"), edit(), api.ErrEdit)
			differs(t, "33 rows, backwards", many(n, 33, "1"), many(0, n, "1"), edit(), api.ErrEdit)
		}
	}
	differs(t, "64 rows", many(0, 32, "1"), many(32, 64, "1"), edit(), api.ErrEdit)
	differs(t, "32 other texts", many(0, 32, "1"), many(0, 32, "2"), manyPut(0, 32, "2"), api.OK)
	differs(t, "32 the same", many(0, 32, "1"), many(0, 32, "1"), edit(), api.OK)
	want := manyPut(1, 32, "2")
	want.Rows = slices.Insert(want.Rows, 0, gone(numbered(0)))
	differs(t, "one gone, 31 others", many(0, 32, "1"), many(1, 32, "2"), want, api.OK)
	differs(t, "one gone, 31 others, one more", many(0, 32, "1"), many(1, 33, "2"), edit(), api.ErrEdit)
	want = edit(gone(numbered(0)), put(numbered(32), "1"))
	differs(t, "one gone, 31 the same, one more", many(0, 32, "1"), many(1, 33, "1"), want, api.OK)
}

// follows fails the test if the difference of two maps does not lead from a to b, or that of the same has rows.
func follows(t *testing.T, a, b api.Map) {
	t.Helper()
	e, err := pathmap.Diff(a, b)
	if err != api.OK {
		return
	}
	is(t, "CheckEdit of a difference", pathmap.CheckEdit(e), api.OK)
	m, err := pathmap.Apply(a, e)
	is(t, "Apply of a difference", err, api.OK)
	has(t, "Apply of a difference", m.Rows, b.Rows)
	e, err = pathmap.Diff(b, m)
	is(t, "Diff of the same", err, api.OK)
	has(t, "Diff of the same", e.Rows, nil)
}

// twice fails the test if an edit applied twice is not as applied once, or what Apply tells may not be.
func twice(t *testing.T, a api.Map, e api.Edit) {
	t.Helper()
	once, err := pathmap.Apply(a, e)
	if err != api.OK {
		return
	}
	is(t, "Check of what Apply tells", pathmap.Check(once), api.OK)
	again, err := pathmap.Apply(once, e)
	is(t, "Apply twice", err, api.OK)
	has(t, "Apply twice", again.Rows, once.Rows)
}

// P5.5: by hand, up to the limit.
func TestWhatFollows(t *testing.T) {
	list := []api.Map{{}, mapOf("a", "1"), mapOf("a", "", "b", "2"), mapOf(text(48), text(256)), many(0, 32, "1"), many(0, 32, "2"), many(1, 32, "1"), many(16, 48, "1"), many(31, 63, "1")}
	edits := []api.Edit{{}, edit(gone("a")), edit(put("a", "")), edit(gone("a"), put("b", "9")), manyPut(0, 32, "3"), manyGone(0, 32), manyGone(20, 52), manyPut(31, 32, "5")}
	for _, a := range list {
		for _, b := range list {
			follows(t, a, b)
		}
		for _, e := range edits {
			twice(t, a, e)
		}
	}
}

// R3: what two calls answer shares no memory, and a list that was answered may grow.
func TestMemoryOfItsOwn(t *testing.T) {
	a, b := mapOf("a", "1", "b", "2"), mapOf("a", "3", "c", "4")
	first, _ := pathmap.Apply(a, edit())
	second, _ := pathmap.Apply(a, edit())
	first.Rows[0].Text = "9"
	_ = append(first.Rows[:1], api.Row{Path: "x"})
	has(t, "the map", a.Rows, mapOf("a", "1", "b", "2").Rows)
	has(t, "the other answer", second.Rows, mapOf("a", "1", "b", "2").Rows)
	d, _ := pathmap.Diff(a, b)
	other, _ := pathmap.Diff(a, b)
	d.Rows[0].Text = "9"
	has(t, "the other difference", other.Rows, []api.Change{put("a", "3"), gone("b"), put("c", "4")})
	l := pathmap.Paths(a, b)
	l[0] = "x"
	has(t, "the paths", pathmap.Paths(a, b), []string{"a", "b", "c"})
	has(t, "the first map", a.Rows, mapOf("a", "1", "b", "2").Rows)
	has(t, "the second map", b.Rows, mapOf("a", "3", "c", "4").Rows)
}

// R1: lists beyond each limit, by far: every call ends.
func TestLongLists(t *testing.T) {
	var m api.Map
	var e api.Edit
	for i := range 200000 {
		p := strconv.Itoa(i % 1000)
		m.Rows, e.Rows = append(m.Rows, api.Row{Path: p}), append(e.Rows, gone(p))
	}
	is(t, "Check", pathmap.Check(m), api.ErrMap)
	is(t, "CheckEdit", pathmap.CheckEdit(e), api.ErrEdit)
	_, err := pathmap.Apply(api.Map{}, e)
	is(t, "Apply", err, api.ErrEdit)
	_, err = pathmap.Diff(api.Map{}, m)
	is(t, "Diff", err, api.ErrMap)
	if l := pathmap.Paths(m, m); len(l) != 1000 || !slices.IsSorted(l) {
		t.Errorf("Paths: %d", len(l))
	}
	if _, there := pathmap.Get(m, "1000"); there {
		t.Errorf("Get: true")
	}
}
