// Package weak is run by TestWeakDigests, in a copy of the module in which all bytes that have "twin" in them have one digest.
package weak

import (
	"strings"
	"testing"

	"confluence/api"
	"confluence/den"
	"confluence/sha"
)

// of is a map of paths and texts by turns.
func of(l ...string) api.Map {
	var m api.Map
	for i := 0; i+1 < len(l); i += 2 {
		m.Rows = append(m.Rows, api.Row{Path: l[i], Text: l[i+1]})
	}
	return m
}

// says is the edit that adds the rows of a map.
func says(l ...string) api.Edit {
	var e api.Edit
	for _, r := range of(l...).Rows {
		e.Rows = append(e.Rows, api.Change{Path: r.Path, Is: true, Text: r.Text})
	}
	return e
}

// note is a stamp with a note.
func note(s string) api.Stamp {
	return api.Stamp{Note: s}
}

// tooLong is a note that may not be.
var tooLong = note(strings.Repeat("n", 201))

// many is a map whose tree is too long, and two of whose texts are twins.
func many() api.Map {
	m := of("a", "twin1", "b", "twin2")
	for c := byte('c'); c <= 'z'; c++ {
		m.Rows = append(m.Rows, api.Row{Path: string([]byte{c}), Text: "t"})
	}
	return m
}

// apart is a heap at made-up Ids: 1, a root without rows; 2 and 3 on it, which say a twin1 and b twin2.
func apart() api.Heap {
	at := func(n byte) api.Id { return api.Id{9, n} }
	tree := func(path string, id api.Id) api.Object {
		return api.Object{Kind: api.ObjTree, Leaves: []api.Leaf{{Path: path, Id: id}}}
	}
	on := func(tree api.Id, e api.Edit) api.Object {
		return api.Object{Kind: api.ObjCommit, Style: api.ComPlain, Tree: tree, Parents: []api.Id{at(1)}, Edit: e, Number: 1}
	}
	return api.Heap{List: []api.Held{
		{Id: at(4), Object: api.Object{Kind: api.ObjTree}},
		{Id: at(1), Object: api.Object{Kind: api.ObjCommit, Style: api.ComRoot, Tree: at(4)}},
		{Id: at(5), Object: api.Object{Kind: api.ObjBlob, Text: "twin1"}},
		{Id: at(6), Object: tree("a", at(5))},
		{Id: at(2), Object: on(at(6), says("a", "twin1"))},
		{Id: at(7), Object: api.Object{Kind: api.ObjBlob, Text: "twin2"}},
		{Id: at(8), Object: tree("b", at(7))},
		{Id: at(3), Object: on(at(8), says("b", "twin2"))},
	}}
}

// is fails the test if a call has told another error, or anything beside an error.
func is(t *testing.T, what string, want api.Errno) func(h api.Heap, id api.Id, err api.Errno) {
	return func(h api.Heap, id api.Id, err api.Errno) {
		t.Helper()
		if err != want || err != api.OK && (len(h.List) > 0 || id != api.Id{}) {
			t.Errorf("%s: error %d, not %d", what, err, want)
		}
	}
}

// P9.2: parts that are twins go ahead of a commit that may not be, and behind a tree that is too long; among what is put there are none.
func TestRoots(t *testing.T) {
	var none api.Heap
	if sha.Sum([]byte("twin1")) != sha.Sum([]byte("2twin")) {
		t.Fatal("no twins")
	}
	is(t, "no twins", api.OK)(den.Root(none, of("a", "1", "b", "2"), note("")))
	is(t, "one text", api.OK)(den.Root(none, of("a", "twin1", "b", "twin1"), note("")))
	is(t, "two texts", api.ErrTwin)(den.Root(none, of("a", "twin1", "b", "twin2"), note("")))
	is(t, "a text and the tree", api.ErrTwin)(den.Root(none, of("twin", "twin"), note("")))
	is(t, "two texts, and a note", api.ErrTwin)(den.Root(none, of("a", "twin1", "b", "twin2"), tooLong))
	is(t, "two texts, and too long a tree", api.ErrFull)(den.Root(none, many(), tooLong))
	is(t, "a text and the commit", api.ErrTwin)(den.Root(none, of("a", "twin1"), note("twin")))
	is(t, "the tree and the commit", api.ErrTwin)(den.Root(none, of("twin", "1"), note("twin")))
	is(t, "a commit alone", api.OK)(den.Root(none, of("a", "1"), note("twin")))
}

// P9.2 to P9.4: what is made on others.
func TestOnOthers(t *testing.T) {
	h, r, err := den.Root(api.Heap{}, of("a", "1"), note("twin"))
	if err != api.OK {
		t.Fatal(err)
	}
	is(t, "a commit and its parent", api.ErrTwin)(den.Plain(h, r, says("b", "2"), note("twin")))
	is(t, "a commit alone", api.OK)(den.Plain(h, r, says("b", "2"), note("")))
	h = apart()
	x, y := api.Id{9, 2}, api.Id{9, 3}
	for _, s := range []api.Stamp{note(""), tooLong} {
		is(t, "Plain", api.ErrTwin)(den.Plain(h, x, says("c", "twin3"), s))
		is(t, "Merge", api.ErrTwin)(den.Merge(h, x, y, api.Edit{}, s))
		is(t, "Rebase", api.ErrTwin)(den.Rebase(h, x, y, s))
	}
	is(t, "a text and the commit", api.ErrTwin)(den.Plain(h, x, api.Edit{}, note("twin")))
	is(t, "a text alone", api.OK)(den.Plain(h, x, says("c", "3"), note("")))
}
