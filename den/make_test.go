package den_test

import (
	"slices"
	"strconv"
	"strings"
	"testing"

	"confluence/api"
	"confluence/dag"
	"confluence/object"
	"confluence/sha"
)

// note is a stamp with a note of so many bytes.
func note(n int) api.Stamp {
	return api.Stamp{Note: strings.Repeat("n", n)}
}

// wide is so many rows of paths with so many bytes each, of one text.
func wide(many, size int) api.Map {
	m := rows(0, many)
	for i := range m.Rows {
		m.Rows[i].Path += strings.Repeat("x", size-2)
	}
	return m
}

// P9.2: Root puts the blocks of its rows in order, none twice, none that is there, the tree, and the commit.
func TestRoot(t *testing.T) {
	four := of("a", "2", "b", "1", "c", "2", "d", "")
	r := commitOf(four, api.ComRoot, 0, me)
	want := []api.Object{blob("2"), blob("1"), blob(""), tree(four), r}
	makes(t, "onto nothing", api.Heap{}, rooted(four, me), want...)
	w := theExample()
	makes(t, "behind others", w.heap, rooted(four, me), blob(""), tree(four), r)
	odd := api.Heap{List: []api.Held{held(1, oddObject), held(1, blob("2")), held(2, r)}}
	made := makes(t, "behind what may not be", odd, rooted(four, me), want...)
	tells(t, "it", made, denoted(idOf(r)), answer{texts: four})
	tells(t, "it", made, sound(idOf(r)), answer{})
	tells(t, "once more", made, rooted(four, me), answer{heap: made, id: idOf(r)})
	other := commitOf(four, api.ComRoot, 0, noStamp)
	makes(t, "once more by somebody else", made, rooted(four, noStamp), other)
	last := api.Stamp{Author: 1<<32 - 1, Note: "\xff\x00"}
	makes(t, "by the last author", made, rooted(four, last), commitOf(four, api.ComRoot, 0, last))
}

// P9.2: maps that may not be, whatever else is wrong.
func TestRootOfWhatMayNotBe(t *testing.T) {
	long := api.Row{Path: "a", Text: strings.Repeat("t", 257)}
	for i, m := range []api.Map{of("b", "1", "a", "1"), of("a", "1", "a", "1"), of("", "1"), of(strings.Repeat("p", 49), "1"), of("\x7f", "1"), {Rows: []api.Row{long}}, rows(0, 33)} {
		for _, s := range []api.Stamp{me, tooLong} {
			tells(t, "may not be "+strconv.Itoa(i), api.Heap{}, rooted(m, s), wrong(api.ErrMap))
		}
	}
}

// P9.2: the greatest trees that may be, and those that have one byte more, whatever the note is; notes up to the longest one, and one byte more.
func TestTheGreatestRoots(t *testing.T) {
	for _, x := range []struct {
		what string
		m    api.Map
		err  api.Errno
	}{
		{"23 rows", rows(0, 22), api.OK}, {"24 rows", rows(0, 24), api.ErrFull}, {"32 rows", rows(0, 32), api.ErrFull},
		{"14 wide rows of 57 bytes", wide(14, 24), api.OK}, {"21 of 38", wide(21, 5), api.OK}, {"22 of 37", wide(22, 4), api.ErrFull},
	} {
		for _, s := range []api.Stamp{noStamp, note(200), note(201), note(255), note(256)} {
			c := rooted(x.m, s)
			switch {
			case x.err != api.OK:
				tells(t, x.what, api.Heap{}, c, wrong(x.err))
			case len(s.Note) > 200:
				tells(t, x.what+", a note that is too long", api.Heap{}, c, wrong(api.ErrObject))
			default:
				makes(t, x.what, api.Heap{}, c, blob("t"), tree(x.m), commitOf(x.m, api.ComRoot, 0, s))
			}
		}
	}
}

// P9.2: the error of a note that is too long goes ahead of an Id that an unlike object has.
func TestNoteAheadOfTwin(t *testing.T) {
	h := api.Heap{List: []api.Held{{Id: idOf(blob("1")), Object: blob("2")}}}
	tells(t, "a twin", h, rooted(of("a", "1"), noStamp), wrong(api.ErrTwin))
	tells(t, "a twin and a note", h, rooted(of("a", "1"), tooLong), wrong(api.ErrObject))
	tells(t, "a twin and a tree", h, rooted(func() api.Map { m := rows(0, 24); m.Rows[0].Text = "1"; return m }(), tooLong), wrong(api.ErrFull))
}

// twins are what stands in a heap at an object's Id: unlike ones, one that is the same, and which error they make.
func twins(o api.Object) []struct {
	what string
	l    []api.Object
	err  api.Errno
} {
	bent := o
	bent.Note += "x"
	return []struct {
		what string
		l    []api.Object
		err  api.Errno
	}{
		{"the same", []api.Object{o}, api.OK},
		{"the same, and an unlike one behind it", []api.Object{o, bent}, api.OK},
		{"one that may not be", []api.Object{{}}, api.ErrTwin},
		{"one with one byte more", []api.Object{bent}, api.ErrTwin},
		{"a block", []api.Object{blob("unlike")}, api.ErrTwin},
		{"a commit", []api.Object{commitOf(of(), api.ComRoot, 0, api.Stamp{Author: 99})}, api.ErrTwin},
		{"an unlike one ahead of the same", []api.Object{bent, o}, api.ErrTwin},
	}
}

// eachTwin fails the test if a call that makes these does not tell ErrTwin where the Id of one of them has an unlike object, and make the others where it has the same.
func eachTwin(t *testing.T, what string, h api.Heap, c call, l ...api.Object) {
	t.Helper()
	for i, o := range l {
		for _, x := range twins(o) {
			for _, behind := range []bool{true, false} {
				var there api.Heap
				for _, y := range x.l {
					there.List = append(there.List, api.Held{Id: idOf(o), Object: y})
				}
				there.List = append(slices.Clone(h.List), there.List...)
				if !behind {
					there.List = slices.Concat(there.List[len(h.List):], h.List)
				}
				that := what + ", " + strconv.Itoa(i) + ": " + x.what
				if x.err != api.OK {
					tells(t, that, there, c, wrong(x.err))
					continue
				}
				want := answer{heap: there, id: idOf(l[len(l)-1])}
				for k, y := range l {
					if k != i {
						want.heap.List = append(want.heap.List, api.Held{Id: idOf(y), Object: y})
					}
				}
				tells(t, that, there, c, want)
			}
		}
	}
}

// P9.2 to P9.4: each of what is put, when its Id has an unlike object already, or the same.
func TestUnlikeObjects(t *testing.T) {
	w := theExample()
	m := of("a", "5", "b", "6")
	eachTwin(t, "Root", w.heap, rooted(m, me), blob("5"), blob("6"), tree(m), commitOf(m, api.ComRoot, 0, me))
	m = of("a", "5", "b", "2", "d", "6")
	e := does("a", "5", "d", "6")
	eachTwin(t, "Plain", w.heap, plain(w.x, e, me), blob("5"), blob("6"), tree(m), plainOf(m, 2, me, w.x, e))
	m = of("a", "8", "b", "2")
	eachTwin(t, "Merge", w.heap, merged(w.x, w.z, api.Edit{}, me), tree(of("a", "9", "b", "2")), mergeOf(of("a", "9", "b", "2"), 2, me, w.x, w.z, w.r, api.Edit{}))
	seven := w.plain(of("a", "7", "b", "2"), w.x, does("a", "7"))
	eachTwin(t, "Merge", w.heap, merged(seven, w.z, does("a", "8"), me), blob("8"), tree(m), mergeOf(m, 3, me, seven, w.z, w.r, does("a", "8")))
	ac, again := of("a", "1", "b", "2", "c", "3"), of("a", "1", "b", "2", "c", "4")
	four := w.plain(of("a", "1", "c", "4"), w.y, does("c", "4"))
	one := plainOf(ac, 2, me, w.x, does("c", "3"))
	eachTwin(t, "Rebase", w.heap, rebased(four, w.x, me), tree(ac), one, tree(again), plainOf(again, 3, me, idOf(one), does("c", "4")))
}

// P9.2: a block, a tree and a commit that are there already, with unlike ones of other Ids.
func TestNothingIsPutTwice(t *testing.T) {
	w := theExample()
	m := of("a", "1", "b", "2")
	o, _ := dag.Get(w.heap, w.x)
	by := api.Stamp{Author: o.Author, Note: o.Note}
	tells(t, "x once more", w.heap, plain(w.r, does("b", "2"), by), answer{heap: w.heap, id: w.x})
	makes(t, "x by somebody else", w.heap, plain(w.r, does("b", "2"), me), plainOf(m, 1, me, w.r, does("b", "2")))
	makes(t, "the map of x", w.heap, rooted(m, me), commitOf(m, api.ComRoot, 0, me))
}

// P9.2: Plain: an edit of no rows, of what is so, of all that there is, of what is not there.
func TestPlain(t *testing.T) {
	w := theExample()
	for _, x := range []struct {
		what string
		e    api.Edit
		m    api.Map
		put  []api.Object
	}{
		{"no rows", does(), of("a", "1", "b", "2"), nil},
		{"what is so", does("a", "1", "b", "2"), of("a", "1", "b", "2"), nil},
		{"what is not there", does("d", gone), of("a", "1", "b", "2"), nil},
		{"all", does("a", gone, "b", gone), of(), []api.Object{tree(of())}},
		{"another one", does("a", gone, "d", ""), of("b", "2", "d", ""), []api.Object{blob(""), tree(of("b", "2", "d", ""))}},
	} {
		o := plainOf(x.m, 2, me, w.x, x.e)
		h := makes(t, x.what, w.heap, plain(w.x, x.e, me), append(x.put, o)...)
		tells(t, x.what, h, denoted(idOf(o)), answer{texts: x.m})
		tells(t, x.what, h, sound(idOf(o)), answer{})
	}
}

// P9.2: Plain's errors, and which of them goes ahead: of the parent, of Apply, of the tree, of the commit.
func TestPlainErrors(t *testing.T) {
	var w stand
	full := w.root(rows(0, 22))
	long := all(rows(0, 23))
	for i := range long.Rows {
		long.Rows[i].Text = strings.Repeat("t", 30)
	}
	far := all(rows(22, 11))
	tenMore := all(rows(22, 10))
	wrongOne := w.plain(of("a", "1"), full, api.Edit{})
	for _, x := range []struct {
		what string
		on   api.Id
		e    api.Edit
		err  api.Errno
	}{
		{"a parent that is not sound", wrongOne, does("b", "1", "a", "1"), api.ErrSound},
		{"a parent that is not there", at(7), does("b", "1", "a", "1"), api.ErrNone},
		{"an edit that may not be", full, does("b", "1", "a", "1"), api.ErrEdit},
		{"an edit that is too long", full, all(rows(0, 33)), api.ErrEdit},
		{"too many rows", full, far, api.ErrFull},
		{"too great a tree", full, tenMore, api.ErrFull},
		{"too great a tree", full, all(rows(22, 2)), api.ErrFull},
		{"too great a commit", full, api.Edit{Rows: long.Rows[:22]}, api.ErrObject},
	} {
		for _, s := range []api.Stamp{noStamp, tooLong} {
			tells(t, x.what, w.heap, plain(x.on, x.e, s), wrong(x.err))
		}
	}
	tells(t, "a note that is too long", w.heap, plain(full, api.Edit{}, tooLong), wrong(api.ErrObject))
	makes(t, "the longest note", w.heap, plain(full, api.Edit{}, note(200)), plainOf(rows(0, 22), 1, note(200), full, api.Edit{}))
}

// P9.2: a plain commit whose bytes are as many as may be, and one more.
func TestTheGreatestPlain(t *testing.T) {
	var w stand
	r := w.root(of())
	// Beside its edit and its note a commit with one parent has 109 bytes, and each row of its edit 4 beside its path and its text.
	const last = 800 - 109 - 200 - 2*(4+1+220) - (4 + 1)
	for _, size := range []int{last - 1, last, last + 1} {
		m := of("a", strings.Repeat("a", 220), "b", strings.Repeat("b", 220), "c", strings.Repeat("c", size))
		o := plainOf(m, 1, note(200), r, all(m))
		if size > last {
			tells(t, "one byte more", w.heap, plain(r, all(m), note(200)), wrong(api.ErrObject))
			continue
		}
		if b, err := object.Encode(o); err != api.OK || len(b) != 800-last+size {
			t.Fatal(len(b), err)
		}
		makes(t, "as many as may be", w.heap, plain(r, all(m), note(200)), blob(m.Rows[0].Text), blob(m.Rows[1].Text), blob(m.Rows[2].Text), tree(m), o)
	}
}

// P9.3: Conflicts of commits that have a base, that are the same, of which one is above the other, that have met nowhere.
func TestConflicts(t *testing.T) {
	w := theExample()
	is := func(s string) api.Side { return api.Side{Is: true, Text: s} }
	noA := w.plain(of("e", "5"), w.r, does("a", gone, "e", "5"))
	e6 := w.plain(of("a", "9", "e", "6"), w.z, does("e", "6"))
	other := w.root(of("a", "9", "b", "2", "c", "4"))
	for _, x := range []struct {
		what string
		a, b api.Id
		l    []api.Conflict
	}{
		{"none", w.x, w.y, nil}, {"the same", w.x, w.x, nil}, {"one above the other", w.r, w.z, nil}, {"one above the other", w.z, w.r, nil},
		{"two", noA, e6, []api.Conflict{{Path: "a", Base: is("1"), Theirs: is("9")}, {Path: "e", Ours: is("5"), Theirs: is("6")}}},
		{"two", e6, noA, []api.Conflict{{Path: "a", Base: is("1"), Ours: is("9")}, {Path: "e", Ours: is("6"), Theirs: is("5")}}},
		{"met nowhere", w.r, other, []api.Conflict{{Path: "a", Ours: is("1"), Theirs: is("9")}}},
		{"met nowhere, the same texts", w.z, other, nil},
		{"met nowhere", w.y, other, []api.Conflict{{Path: "a", Ours: is("1"), Theirs: is("9")}, {Path: "c", Ours: is("3"), Theirs: is("4")}}},
	} {
		tells(t, x.what, w.heap, conflicts(x.a, x.b), answer{conflicts: x.l})
	}
}

// P9.3: more conflicts than an edit may have rows are told all the same, and can't be merged.
func TestManyConflicts(t *testing.T) {
	var w stand
	r := w.root(rows(0, 21))
	edit := func(m api.Map, text string) (api.Map, api.Edit) {
		m.Rows = slices.Clone(m.Rows)
		for i := range m.Rows {
			m.Rows[i].Text = text
		}
		return m, all(m)
	}
	ours, e := edit(rows(0, 21), "o")
	a := w.plain(ours, r, e)
	theirs, e := edit(rows(0, 21), "h")
	b := w.plain(theirs, r, e)
	var l []api.Conflict
	for i := range 21 {
		side := func(s string) api.Side { return api.Side{Is: true, Text: s} }
		l = append(l, api.Conflict{Path: path(i), Base: side("t"), Ours: side("o"), Theirs: side("h")})
	}
	tells(t, "21 conflicts", w.heap, conflicts(a, b), answer{conflicts: l})
	makes(t, "21 conflicts", w.heap, merged(a, b, e, me), mergeOf(theirs, 2, me, a, b, r, e))
	tells(t, "20 of 21", w.heap, merged(a, b, api.Edit{Rows: e.Rows[1:]}, me), wrong(api.ErrConflict))
	lost := all(rows(0, 21))
	for i := range lost.Rows {
		lost.Rows[i].Text = strings.Repeat("l", 30)
	}
	tells(t, "too great a commit", w.heap, merged(a, b, lost, me), wrong(api.ErrObject))
}

// P9.3: Merge of commits that are the same, of which one is above the other, near and far; of two that have met nowhere.
func TestMerge(t *testing.T) {
	w := theExample()
	xy := of("a", "1", "b", "2", "c", "3")
	m := w.join(xy, w.x, w.y, w.r, api.Edit{})
	n := w.plain(of("a", "1", "b", "2", "c", "3", "d", "4"), m, does("d", "4"))
	for _, l := range [][2]api.Id{{w.x, w.x}, {w.r, w.r}, {w.r, w.x}, {w.r, n}, {w.y, n}, {m, n}} {
		for _, by := range []api.Edit{{}, does("a", "1"), does("", "")} {
			tells(t, "straight", w.heap, merged(l[0], l[1], by, tooLong), wrong(api.ErrNone))
			tells(t, "straight", w.heap, merged(l[1], l[0], by, tooLong), wrong(api.ErrNone))
		}
	}
	back := mergeOf(xy, 2, me, w.y, w.x, w.r, api.Edit{})
	makes(t, "the sides changed about", w.heap, merged(w.y, w.x, api.Edit{}, me), back)
	far := of("a", "9", "b", "2", "c", "3", "d", "4")
	makes(t, "one deeper than the other", w.heap, merged(w.z, n, api.Edit{}, me), tree(far), mergeOf(far, 4, me, w.z, n, w.r, api.Edit{}))
	k := w.join(xy, w.y, w.x, w.r, api.Edit{})
	first := w.x
	if sha.Less(w.y, w.x) {
		first = w.y
	}
	makes(t, "parted twice", w.heap, merged(n, k, api.Edit{}, me), mergeOf(of("a", "1", "b", "2", "c", "3", "d", "4"), 4, me, n, k, first, api.Edit{}))
	other := w.root(of("a", "9", "d", "4"))
	met := of("a", "6", "b", "2", "d", "4")
	makes(t, "met nowhere", w.heap, merged(w.x, other, does("a", "6"), me), blob("6"), tree(met), mergeOf(met, 2, me, w.x, other, api.Id{}, does("a", "6")))
	tells(t, "met nowhere", w.heap, merged(w.x, other, api.Edit{}, me), wrong(api.ErrConflict))
	none := of()
	gone1, gone2 := w.plain(none, w.r, does("a", gone)), w.plain(none, w.r, does("a", gone))
	makes(t, "of no rows", w.heap, merged(gone1, gone2, api.Edit{}, me), mergeOf(none, 2, me, gone1, gone2, w.r, api.Edit{}))
}

// P9.3: Merge's errors, and which of them goes ahead.
func TestMergeErrors(t *testing.T) {
	var w stand
	r := w.root(of())
	a, b := w.plain(rows(0, 16), r, all(rows(0, 16))), w.plain(rows(16, 17), r, all(rows(16, 17)))
	c := w.plain(rows(16, 16), r, all(rows(16, 16)))
	two := rows(0, 2)
	two.Rows[1].Text = "u"
	d := w.plain(two, r, all(two))
	unsound := w.plain(of("a", "1"), r, api.Edit{})
	nothing := w.plain(of("a", "1"), w.join(of(), a, b, at(5), api.Edit{}), api.Edit{})
	for _, x := range []struct {
		what string
		a, b api.Id
		by   api.Edit
		err  api.Errno
	}{
		{"33 rows", a, b, api.Edit{}, api.ErrFull}, {"32 rows", a, c, api.Edit{}, api.ErrFull},
		{"an edit that may not be", a, b, does("b", "1", "a", "1"), api.ErrEdit}, {"an edit that may not be", a, d, does("b", "1", "a", "1"), api.ErrEdit},
		{"no edit of a conflict", a, d, api.Edit{}, api.ErrConflict}, {"an edit of no conflict", a, b, does(path(0), "t"), api.ErrConflict},
		{"an edit of another one", a, d, does(path(0), "t"), api.ErrConflict}, {"an edit of two", a, d, does(path(0), "t", path(1), "t"), api.ErrConflict},
		{"ours is not sound", unsound, nothing, does("", ""), api.ErrSound}, {"ours denotes nothing", nothing, unsound, does("", ""), api.ErrDen},
		{"theirs is not sound", a, unsound, does("", ""), api.ErrSound}, {"theirs denotes nothing", a, nothing, does("", ""), api.ErrDen},
		{"theirs is not sound, and ours is above it", r, unsound, does("", ""), api.ErrSound},
		{"the same, not sound", unsound, unsound, does("", ""), api.ErrSound},
	} {
		for _, s := range []api.Stamp{noStamp, tooLong} {
			tells(t, x.what, w.heap, merged(x.a, x.b, x.by, s), wrong(x.err))
		}
	}
	tells(t, "a note that is too long", w.heap, merged(a, d, does(path(1), "t"), tooLong), wrong(api.ErrObject))
	makes(t, "the longest note", w.heap, merged(a, d, does(path(1), "t"), note(200)), mergeOf(rows(0, 16), 2, note(200), a, d, r, does(path(1), "t")))
}

// P9.3, P9.4: errors of the first commit go ahead of those of the second one, whichever they are; Conflicts, Merge, Rebase.
func TestWhichErrorIsFirst(t *testing.T) {
	w := theExample()
	o, _ := dag.Get(w.heap, w.x)
	open := o
	open.Tree = at(77)
	h := w.with(held(1, open), held(2, plainOf(of("a", "1"), 1, noStamp, w.r, does("b", "2"))))
	far := w.join(of(), w.x, w.y, at(5), api.Edit{})
	h = w.with(h.List[len(h.List)-2:]...)
	ids := []struct {
		id  api.Id
		err api.Errno
	}{{at(9), api.ErrNone}, {idOf(blob("1")), api.ErrObject}, {at(1), api.ErrDag}, {far, api.ErrDen}, {at(2), api.ErrSound}}
	for _, a := range ids {
		for _, b := range ids {
			tells(t, "two", h, conflicts(a.id, b.id), wrong(a.err))
			tells(t, "two", h, merged(a.id, b.id, does("", ""), tooLong), wrong(a.err))
			tells(t, "two", h, rebased(a.id, b.id, tooLong), wrong(a.err))
		}
		notSound(t, "one", h, a.id, w.r, a.err)
		notSound(t, "one", h, a.id, w.z, a.err)
	}
}

// P9.4: Rebase of none: the same, one above the other, two that have met nowhere.
func TestRebaseOfNone(t *testing.T) {
	w := theExample()
	up := w.plain(of("a", "1", "b", "2"), w.x, api.Edit{})
	m := w.join(of("a", "1", "b", "2", "c", "3"), w.x, w.y, w.r, api.Edit{})
	other := w.root(of("a", "1"))
	on := w.plain(of("a", "2"), other, does("a", "2"))
	for _, l := range [][2]api.Id{{w.r, w.r}, {w.x, w.x}, {m, m}, {w.r, w.x}, {w.r, up}, {w.x, up}, {w.y, m}, {w.r, m}, {other, on}, {w.r, other}, {w.x, other}, {w.x, on}, {m, on}} {
		for _, s := range []api.Stamp{noStamp, tooLong} {
			tells(t, "none", w.heap, rebased(l[0], l[1], s), wrong(api.ErrNone))
			tells(t, "none", w.heap, rebased(l[1], l[0], s), wrong(api.ErrNone))
		}
	}
}

// P9.4: Rebase of several commits: each anew, the oldest one first, with the difference that it makes there, with this stamp.
func TestRebaseOfSeveral(t *testing.T) {
	w := theExample()
	y2 := w.plain(of("a", "1", "c", "3", "d", "4"), w.y, does("d", "4"))
	y3 := w.plain(of("a", "1", "d", "4"), y2, does("b", gone, "c", gone))
	y4 := w.plain(of("a", "1", "d", "4", "e", "9"), y3, does("d", "4", "e", "9"))
	ontoX := func(m api.Map, n uint32, on api.Id, e api.Edit) api.Object { return plainOf(m, n, me, on, e) }
	m1, m2, m3, m4 := of("a", "1", "b", "2", "c", "3"), of("a", "1", "b", "2", "c", "3", "d", "4"), of("a", "1", "b", "2", "d", "4"), of("a", "1", "b", "2", "d", "4", "e", "9")
	c1 := ontoX(m1, 2, w.x, does("c", "3"))
	c2 := ontoX(m2, 3, idOf(c1), does("d", "4"))
	c3 := ontoX(m3, 4, idOf(c2), does("c", gone))
	c4 := ontoX(m4, 5, idOf(c3), does("e", "9"))
	makes(t, "one", w.heap, rebased(w.y, w.x, me), tree(m1), c1)
	makes(t, "two", w.heap, rebased(y2, w.x, me), tree(m1), c1, tree(m2), c2)
	h := makes(t, "four", w.heap, rebased(y4, w.x, me), tree(m1), c1, tree(m2), c2, tree(m3), c3, tree(m4), c4)
	for _, o := range []api.Object{c1, c2, c3, c4} {
		tells(t, "each", h, sound(idOf(o)), answer{})
	}
	tells(t, "once more", h, rebased(y4, w.x, me), answer{heap: h, id: idOf(c4)})
	same := w.plain(of("a", "9", "e", "9"), w.z, does("e", "9"))
	n1, n2 := of("a", "9", "c", "3", "e", "9"), of("a", "9", "c", "3", "d", "4", "e", "9")
	n3 := of("a", "9", "d", "4", "e", "9")
	k1 := plainOf(n1, 3, me, same, does("c", "3"))
	k2 := plainOf(n2, 4, me, idOf(k1), does("d", "4"))
	k3 := plainOf(n3, 5, me, idOf(k2), does("c", gone))
	k4 := plainOf(n3, 6, me, idOf(k3), api.Edit{})
	makes(t, "onto what has the same", w.heap, rebased(y4, same, me), tree(n1), k1, tree(n2), k2, tree(n3), k3, k4)
	makes(t, "the other way round", w.heap, rebased(w.x, w.y, me), tree(m1), plainOf(m1, 2, me, w.y, does("b", "2")))
}

// P9.4: Rebase over merges and roots in the chain, and from a base that is a merge, and onto a merge.
func TestRebaseOverMerges(t *testing.T) {
	w := theExample()
	xy := of("a", "1", "b", "2", "c", "3")
	m := w.join(xy, w.x, w.y, w.r, api.Edit{})
	on := w.plain(of("a", "1", "b", "2", "c", "3", "d", "4"), m, does("d", "4"))
	far := w.plain(of("a", "1", "b", "2", "c", "3", "d", "5"), on, does("d", "5"))
	beside := w.plain(of("b", "2", "c", "3"), m, does("a", gone))
	other := w.root(of("a", "1"))
	r2 := w.join(of("a", "1", "b", "2"), other, w.x, api.Id{}, api.Edit{})
	top := w.plain(of("a", "1", "b", "3"), r2, does("b", "3"))
	for _, l := range [][2]api.Id{{m, w.z}, {on, w.z}, {far, w.z}, {r2, w.y}, {top, w.y}, {top, m}, {on, top}} {
		for _, s := range []api.Stamp{noStamp, tooLong} {
			tells(t, "a merge in the chain", w.heap, rebased(l[0], l[1], s), wrong(api.ErrChain))
		}
	}
	onZ := of("a", "9", "b", "2", "c", "3")
	z := w.join(onZ, w.z, m, w.r, api.Edit{})
	d := of("a", "9", "b", "2", "c", "3", "d", "4")
	makes(t, "the base is a merge, onto a merge", w.heap, rebased(on, z, me), tree(d), plainOf(d, 4, me, z, does("d", "4")))
	e := of("b", "2", "c", "3", "d", "4")
	f := of("b", "2", "c", "3", "d", "5")
	first := plainOf(e, 4, me, beside, does("d", "4"))
	makes(t, "the base is a merge", w.heap, rebased(far, beside, me), tree(e), first, tree(f), plainOf(f, 5, me, idOf(first), does("d", "5")))
	g := of("a", "9", "b", "2", "c", "3")
	makes(t, "onto a merge", w.heap, rebased(w.z, m, me), plainOf(g, 3, me, m, does("a", "9")))
}

// P9.4: an error at the first commit, in the middle, and at the last one: a conflict, too many rows, too great a tree, a note, an unlike object.
func TestRebaseErrors(t *testing.T) {
	for place := range 3 {
		var w stand
		base := rows(0, 12)
		r := w.root(base)
		onto := w.plain(func() api.Map { m := rows(0, 12); m.Rows[0].Text = "o"; return m }(), r, does(path(0), "o"))
		wide := w.plain(rows(0, 22), r, all(rows(12, 10)))
		chain := func(e api.Edit) (api.Id, api.Map) {
			top, m := r, base
			for i := range 3 {
				by := does("x"+strconv.Itoa(i), "n")
				if i == place {
					by = e
				}
				m = applied(m, by)
				top = w.plain(m, top, by)
			}
			return top, m
		}
		what := "the error at " + strconv.Itoa(place)
		apart, _ := chain(does(path(0), "h"))
		tells(t, what, w.heap, rebased(apart, onto, tooLong), wrong(map[bool]api.Errno{true: api.ErrConflict, false: api.ErrObject}[place == 0]))
		tells(t, what, w.heap, rebased(apart, onto, me), wrong(api.ErrConflict))
		both, _ := chain(does(path(0), "o"))
		if got := rebased(both, onto, me).ask(w.heap); got.err != api.OK {
			t.Errorf("%s: the same on both sides: %d", what, got.err)
		}
		tells(t, what, w.heap, rebased(both, onto, tooLong), wrong(api.ErrObject))
		many, _ := chain(all(rows(30, 8)))
		tells(t, what, w.heap, rebased(many, wide, me), wrong(api.ErrFull))
		big, _ := chain(all(func() api.Map {
			m := rows(40, 2)
			m.Rows[0].Text, m.Rows[1].Text = strings.Repeat("b", 256), strings.Repeat("c", 256)
			return m
		}()))
		if got := rebased(big, onto, note(100)).ask(w.heap); got.err != api.OK {
			t.Errorf("%s: a short note: %d", what, got.err)
		}
		tells(t, what, w.heap, rebased(big, onto, note(200)), wrong(api.ErrObject))
		good := rebased(both, onto, me).ask(w.heap)
		for _, x := range good.heap.List[len(w.heap.List):] {
			tells(t, what, w.with(api.Held{Id: x.Id, Object: blob("unlike")}), rebased(both, onto, me), wrong(api.ErrTwin))
		}
	}
}

// applied is what an edit makes of a map, row by row.
func applied(m api.Map, e api.Edit) api.Map {
	var made api.Map
	for _, r := range m.Rows {
		if !slices.ContainsFunc(e.Rows, func(c api.Change) bool { return c.Path == r.Path }) {
			made.Rows = append(made.Rows, r)
		}
	}
	for _, c := range e.Rows {
		if c.Is {
			made.Rows = append(made.Rows, api.Row{Path: c.Path, Text: c.Text})
		}
	}
	slices.SortFunc(made.Rows, func(a, b api.Row) int { return strings.Compare(a.Path, b.Path) })
	return made
}
